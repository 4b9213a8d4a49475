/- sides, as a contract. -/
import Derived.Test.YtojfblkmhdgjeaaDoorDigW3
namespace Go.Proofs.YtojfblkmhdgjeaaDoor
open Go.RowKit Go.ChangeShapes Go.WideShapes Go.ChangeAt

/-! ### the way of an extension, from the root on -/
def valW (u : ByteArray) : List (Bool × ByteArray) → ByteArray
  | [] => u
  | p :: r => joinV p.1 (valW u r) p.2
def wayW (u : ByteArray) : List (Bool × ByteArray) → List ByteArray
  | [] => []
  | p :: r => (if p.1 then ⟨#[1]⟩ ++ valW u r ++ p.2 else ⟨#[1]⟩ ++ p.2 ++ valW u r) :: wayW u r
theorem valW_size {u : ByteArray} (hu : u.size = 32) (Z : List (Bool × ByteArray)) : (valW u Z).size = 32 := by
  cases Z with
  | nil => exact hu
  | cons p r => exact joinV_size _ _ _
theorem wayW_length (u : ByteArray) (Z : List (Bool × ByteArray)) : (wayW u Z).length = Z.length := by
  induction Z with
  | nil => rfl
  | cons p r ih => simp [wayW, ih]
theorem valW_climb (u : ByteArray) (ls : List Bool) (ps : List ByteArray) : climb u ls ps = valW u (ls.zip ps).reverse := by
  unfold climb
  rw [List.foldl_eq_foldr_reverse]
  induction (ls.zip ps).reverse with
  | nil => rfl
  | cons p r ih => rw [List.foldr_cons, ih]; rfl
theorem wayW_small {u : ByteArray} (hu : u.size = 32) : ∀ (Z : List (Bool × ByteArray)), (∀ p ∈ Z, p.2.size = 32) → ∀ x ∈ wayW u Z, x.size ≤ 100 := by
  intro Z
  induction Z with
  | nil => intro _ x hx; cases hx
  | cons p r ih =>
    intro h x hx
    rcases List.mem_cons.1 hx with rfl | hx
    · have h1 := valW_size hu r
      have h2 := h p (by simp)
      have : (⟨#[1]⟩ : ByteArray).size = 1 := rfl
      split <;> rw [app_cat, app_cat, catS_size, catS_size] <;> omega
    · exact ih (fun q hq => h q (List.mem_cons_of_mem _ hq)) x hx
/-- the same value on the same sides: two strings with the same sum, or the same way -/
theorem wayW_collide {u v : ByteArray} (hu : u.size = 32) (hv : v.size = 32) : ∀ (Z Y : List (Bool × ByteArray)), Z.map (·.1) = Y.map (·.1) → (∀ p ∈ Z, p.2.size = 32) → (∀ p ∈ Y, p.2.size = 32) → valW u Z = valW v Y →
    collideS (wayW u Z) (wayW v Y) = true ∨ (u = v ∧ Z = Y)
  | [], [], _, _, _, h => .inr ⟨h, rfl⟩
  | [], _ :: _, h, _, _, _ => by simp at h
  | _ :: _, [], h, _, _, _ => by simp at h
  | (l, x) :: Z, (l', y) :: Y, hm, hz, hy, h => by
    obtain ⟨rfl, hm2⟩ : l = l' ∧ Z.map (·.1) = Y.map (·.1) := by simpa using hm
    have ih := wayW_collide hu hv Z Y hm2 (fun p hp => hz p (List.mem_cons_of_mem _ hp)) (fun p hp => hy p (List.mem_cons_of_mem _ hp))
    have hx : x.size = 32 := hz (l, x) (by simp)
    have hy : y.size = 32 := hy (l, y) (by simp)
    have v1 := valW_size hu Z
    have v2 := valW_size hv Y
    have o1 : (⟨#[1]⟩ : ByteArray).size = 1 := rfl
    cases l with
    | true =>
      have h' : nodeS (valW u Z) x = nodeS (valW v Y) y := h
      rw [nodeS_app, nodeS_app] at h'
      by_cases e : (⟨#[1]⟩ ++ valW u Z ++ x : ByteArray) = ⟨#[1]⟩ ++ valW v Y ++ y
      · have e0 := app_inj e (by rw [app_cat, app_cat, catS_size, catS_size]; omega)
        have e2 := (app_inj e0.1 rfl).2
        rcases ih e2 with hc | ⟨h1, h2⟩
        · exact .inl (by simp [wayW, collideS, hc])
        · exact .inr ⟨h1, by rw [h2, e0.2]⟩
      · exact .inl (by simp [wayW, collideS, e, h'])
    | false =>
      have h' : nodeS x (valW u Z) = nodeS y (valW v Y) := h
      rw [nodeS_app, nodeS_app] at h'
      by_cases e : (⟨#[1]⟩ ++ x ++ valW u Z : ByteArray) = ⟨#[1]⟩ ++ y ++ valW v Y
      · have e0 := app_inj e (by rw [app_cat, app_cat, catS_size, catS_size]; omega)
        have e2 := (app_inj e0.1 rfl).2
        rcases ih e0.2 with hc | ⟨h1, h2⟩
        · exact .inl (by simp [wayW, collideS, hc])
        · exact .inr ⟨h1, by rw [h2, e2]⟩
      · exact .inl (by simp [wayW, collideS, e, h'])

/-! ### a row appended to an own row, in a region that keeps its order -/
theorem run_append_strs2 (w : World) (B : Nat) (v : Value) (xs : List ByteArray) (hown : OwnS w B v xs) (po : Option Addr) (m c : Nat) (ns : List ByteArray) (hm : ns.length = m) (hnil : po = none → c = 0) (hS : StrSl w po ns)
    (hl : xs.length + m ≤ 2 ^ 40) (hB : B ≤ w.heap.size) :
    ∃ v' w', (Builtin.append_ #[26, 26] 26 #[v, .slice po m c]).run Tryd.prog w = .ok v' w' ∧ OwnS w' B v' (xs ++ ns) ∧ w.grownBy w' v.ownBlock := by
  obtain ⟨i0, hi0, hz0, hz1, hz2⟩ := info_parts infoStr
  cases po with
  | none =>
    have hn : ns = [] := by
      rcases hS with h | ⟨b, off, h, _⟩
      · exact h
      · cases h
    subst hn
    obtain rfl : m = 0 := hm.symm
    obtain rfl := hnil rfl
    refine ⟨v, w, run_append_none w B _ _ _ i0 Tryd.underlying26 hi0 v _ _ _ hown, by simpa using hown, World.grownBy.refl _ _⟩
  | some a =>
    have hc : ∀ j u, (ns.map strV)[j]? = some u → w.cell? (a.add j) = some u := by
      intro j u hj
      rw [List.getElem?_map] at hj
      obtain ⟨x, hx, rfl⟩ := Option.map_eq_some_iff.1 hj
      rcases hS with rfl | ⟨b, off, h, hl, hc⟩
      · simp at hx
      · cases h
        have e : Addr.add ⟨b, off, none⟩ j = ⟨b, off + j, none⟩ := by unfold Addr.add; split <;> simp_all
        rw [e]
        exact hc j x hx
    obtain ⟨v', w', hr, h2, h3, _⟩ := run_append_own (P := Tryd.prog) w B 26 26 9 i0 (.string ⟨#[]⟩) 1 16 Tryd.underlying26 hi0 hz0 hz1 hz2 rfl (by decide) v xs.length (xs.map strV) hown a m c (ns.map strV) (by simp [hm]) hc (strV_one _) (by unfold maxLen; omega) (by omega) hB
    refine ⟨v', w', hr, ?_, h3⟩
    unfold OwnS
    rw [List.length_append, List.map_append, hm]
    exact h2
theorem wpList_append_strs {ops : Array Oper} {rest : List Oper} {o : Oper} {a : Act} {w : World} {Q : Exit → Act → World → Prop} (hgd : o.guard = none) (s x : Operand)
    (ho : o.op = .call { callee := .builtin .append, args := #[s, x], argTypes := #[26, 26] }) (hty : o.type = 26)
    (B : Nat) (v : Value) (xs : List ByteArray) (hs : a.eval s = v) (hown : OwnS w B v xs) (po : Option Addr) (m c : Nat) (ns : List ByteArray) (hx : a.eval x = .slice po m c) (hm : ns.length = m) (hnil : po = none → c = 0) (hS : StrSl w po ns)
    (hl : xs.length + m ≤ 2 ^ 40) (hB : B ≤ w.heap.size) (h : ∀ v' w', OwnS w' B v' (xs ++ ns) → w.grownBy w' v.ownBlock → wpList Tryd.prog ops Q rest (a.put o.dst v') w') : wpList Tryd.prog ops Q (o :: rest) a w :=
  wpList_plain hgd fun _ hK => by
    obtain ⟨v', w', hr, h2, h3⟩ := run_append_strs2 w B v xs hown po m c ns hm hnil hS hl hB
    unfold Oper.wp execOp
    simp only [ho, hty, resolve, invoke, builtin, Sem.run_bind, Sem.run_pure, Result.andThen_ok, List.map_toArray, List.map_cons, List.map_nil, hs, hx, hr]
    exact hK _ _ (h v' w' h2 h3)
theorem own_some {w : World} {B L : Nat} {v : Value} {x : ByteArray} {xs : List ByteArray} (hL : xs.length = L) (h : OwnS w B v ([x] ++ xs)) : ∃ b c, v = .slice (some ⟨b, 0, none⟩) (L + 1) c ∧ StrSl w (some ⟨b, 0, none⟩) (x :: xs) :=
  own_head hL (by unfold OwnS at h; rw [List.length_append, hL] at h; exact h)
end Go.Proofs.YtojfblkmhdgjeaaDoor
