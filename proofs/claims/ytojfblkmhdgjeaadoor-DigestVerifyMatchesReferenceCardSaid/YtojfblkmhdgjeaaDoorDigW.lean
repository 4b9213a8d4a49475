/- The strings that are hashed on the way of a proof; lists that collide. -/
import Derived.Test.YtojfblkmhdgjeaaDoorDigFrame
import Derived.Test.YtojfblkmhdgjeaaDoorDigAp

namespace Go.Proofs.YtojfblkmhdgjeaaDoor
open Go.RowKit Go.ChangeShapes Go.WideShapes Go.ChangeAt

theorem app_cat (a b : ByteArray) : a ++ b = catS a b := by
  apply ByteArray.ext
  apply Array.toList_inj.1
  simp [catS]
theorem catS_inj {a b c d : ByteArray} (h : catS a b = catS c d) (hs : a.size = c.size) : a = c ∧ b = d := by
  have h1 : a.data.toList ++ b.data.toList = c.data.toList ++ d.data.toList := by
    have := congrArg (fun s : ByteArray => s.data.toList) h
    simpa [catS] using this
  have h2 : a.data.toList.length = c.data.toList.length := by rw [Array.length_toList, Array.length_toList]; exact hs
  obtain ⟨e1, e2⟩ := List.append_inj h1 h2
  exact ⟨ByteArray.ext (Array.toList_inj.1 e1), ByteArray.ext (Array.toList_inj.1 e2)⟩
theorem app_inj {a b c d : ByteArray} (h : a ++ b = c ++ d) (hs : a.size = c.size) : a = c ∧ b = d := by
  rw [app_cat, app_cat] at h
  exact catS_inj h hs
theorem leafS_app (s : ByteArray) : leafS s = sumS (⟨#[0]⟩ ++ s) := by rw [app_cat]; rfl
theorem nodeS_app (a b : ByteArray) : nodeS a b = sumS (⟨#[1]⟩ ++ a ++ b) := by rw [app_cat, app_cat]; rfl
theorem chainS_app (a b : ByteArray) : chainS a b = sumS (⟨#[2]⟩ ++ a ++ b) := by rw [app_cat, app_cat]; rfl

/-! ### lists that collide -/
def collideS : List ByteArray → List ByteArray → Bool
  | x :: xs, y :: ys => (decide (x ≠ y) && decide (sumS x = sumS y)) || collideS xs ys
  | _, _ => false

/-! ### the way of a proof, from the root on -/
def valZ (s : ByteArray) : List (Bool × ByteArray) → ByteArray
  | [] => leafS s
  | p :: r => joinV p.1 (valZ s r) p.2
def wayZ (s : ByteArray) : List (Bool × ByteArray) → List ByteArray
  | [] => [⟨#[0]⟩ ++ s]
  | p :: r => (if p.1 then ⟨#[1]⟩ ++ valZ s r ++ p.2 else ⟨#[1]⟩ ++ p.2 ++ valZ s r) :: wayZ s r
theorem valZ_size (s : ByteArray) (Z : List (Bool × ByteArray)) : (valZ s Z).size = 32 := by
  cases Z with
  | nil => exact leafS_size _
  | cons p r => exact joinV_size _ _ _
theorem wayZ_length (s : ByteArray) (Z : List (Bool × ByteArray)) : (wayZ s Z).length = Z.length + 1 := by
  induction Z with
  | nil => rfl
  | cons p r ih => simp [wayZ, ih]
theorem valZ_climb (s : ByteArray) (ls : List Bool) (ps : List ByteArray) : climb (leafS s) ls ps = valZ s (ls.zip ps).reverse := by
  unfold climb
  rw [List.foldl_eq_foldr_reverse]
  induction (ls.zip ps).reverse with
  | nil => rfl
  | cons p r ih => rw [List.foldr_cons, ih]; rfl
theorem wayZ_small (s : ByteArray) (hs : s.size ≤ 60) : ∀ (Z : List (Bool × ByteArray)), (∀ p ∈ Z, p.2.size ≤ 60) → ∀ x ∈ wayZ s Z, x.size ≤ 100 := by
  intro Z
  induction Z with
  | nil =>
    intro _ x hx
    obtain rfl : x = ⟨#[0]⟩ ++ s := by simpa [wayZ] using hx
    rw [app_cat, catS_size]
    have : (⟨#[0]⟩ : ByteArray).size = 1 := rfl
    omega
  | cons p r ih =>
    intro h x hx
    rcases List.mem_cons.1 hx with rfl | hx
    · have h1 := valZ_size s r
      have h2 := h p (by simp)
      have : (⟨#[1]⟩ : ByteArray).size = 1 := rfl
      split <;> rw [app_cat, app_cat, catS_size, catS_size] <;> omega
    · exact ih (fun q hq => h q (List.mem_cons_of_mem _ hq)) x hx
/-- two entries with the same value on the same sides: two strings with the same sum -/
theorem wayZ_collide {s t : ByteArray} (hst : s ≠ t) : ∀ (Z Y : List (Bool × ByteArray)), Z.map (·.1) = Y.map (·.1) → (∀ p ∈ Z, p.2.size = 32) → (∀ p ∈ Y, p.2.size = 32) → valZ s Z = valZ t Y → collideS (wayZ s Z) (wayZ t Y) = true
  | [], [], _, _, _, h => by
    have hne : (⟨#[0]⟩ ++ s : ByteArray) ≠ ⟨#[0]⟩ ++ t := fun e => hst (app_inj e rfl).2
    have hs : sumS (⟨#[0]⟩ ++ s) = sumS (⟨#[0]⟩ ++ t) := by
      rw [← leafS_app, ← leafS_app]; exact h
    simp [wayZ, collideS, hne, hs]
  | [], _ :: _, h, _, _, _ => by simp at h
  | _ :: _, [], h, _, _, _ => by simp at h
  | (l, x) :: Z, (l', y) :: Y, hm, hz, hy, h => by
    obtain ⟨rfl, hm2⟩ : l = l' ∧ Z.map (·.1) = Y.map (·.1) := by simpa using hm
    have ih := wayZ_collide hst Z Y hm2 (fun p hp => hz p (List.mem_cons_of_mem _ hp)) (fun p hp => hy p (List.mem_cons_of_mem _ hp))
    have hx : x.size = 32 := hz (l, x) (by simp)
    have hy : y.size = 32 := hy (l, y) (by simp)
    have v1 := valZ_size s Z
    have v2 := valZ_size t Y
    have o1 : (⟨#[1]⟩ : ByteArray).size = 1 := rfl
    cases l with
    | true =>
      have h' : nodeS (valZ s Z) x = nodeS (valZ t Y) y := h
      rw [nodeS_app, nodeS_app] at h'
      by_cases e : (⟨#[1]⟩ ++ valZ s Z ++ x : ByteArray) = ⟨#[1]⟩ ++ valZ t Y ++ y
      · have e1 := (app_inj e (by rw [app_cat, app_cat, catS_size, catS_size]; omega)).1
        have e2 := (app_inj e1 rfl).2
        simp [wayZ, collideS, ih e2]
      · simp [wayZ, collideS, e, h']
    | false =>
      have h' : nodeS x (valZ s Z) = nodeS y (valZ t Y) := h
      rw [nodeS_app, nodeS_app] at h'
      by_cases e : (⟨#[1]⟩ ++ x ++ valZ s Z : ByteArray) = ⟨#[1]⟩ ++ y ++ valZ t Y
      · have e2 := (app_inj e (by rw [app_cat, app_cat, catS_size, catS_size]; omega)).2
        simp [wayZ, collideS, ih e2]
      · simp [wayZ, collideS, e, h']

theorem made_one (w : World) {B n : Nat} (x : ByteArray) (hB : B ≤ w.heap.size) (hn : w.heap.size = n) : (w.alloc (.cells #[.string x] 9)).ownsRow B 9 1 (.slice (some ⟨n, 0, none⟩) 1 1) 1 [.string x] := by
  subst hn
  exact ⟨by simp, .inr ⟨w.heap.size, 1, #[.string x], rfl, hB, heap_alloc_new w _, Nat.le_refl _, by decide, rfl, by simp⟩⟩
end Go.Proofs.YtojfblkmhdgjeaaDoor
