/- The reference's VerifyExtension. -/
import Derived.Test.YtojfblkmhdgjeaaDoorDigRF
namespace Go.Proofs.YtojfblkmhdgjeaaDoor
open Go.RowKit Go.Shelf

/-! ### the two values of an extension -/
def bothO (old : ByteArray) (wh : Bool) (n m : Nat) (ps : List ByteArray) : Option (ByteArray × ByteArray) :=
  if (wh && wholeN n m) = true then (if (xsN n m).length = ps.length then some (shortV old (xsN n m) ps, climb old (xsN n m) ps) else none)
  else match ps with
    | [] => none
    | f :: r => if (xsN n m).length = r.length then some (shortV f (xsN n m) r, climb f (xsN n m) r) else none
theorem bothO_whole (old : ByteArray) (n : Nat) (ps : List ByteArray) : bothO old true n n ps = if ps.length = 0 then some (old, old) else none := by
  unfold bothO
  rw [wholeN_end (Nat.le_refl _), xsN_end (Nat.le_refl _), if_pos (show (true && true) = true from rfl)]
  by_cases h : ps.length = 0
  · rw [if_pos h, if_pos (by simpa using h.symm)]; rfl
  · rw [if_neg h, if_neg (by simpa using fun h' => h h'.symm)]
theorem bothO_part (old : ByteArray) (n : Nat) (ps : List ByteArray) (h : ps.length ≠ 1) : bothO old false n n ps = none := by
  unfold bothO
  rw [xsN_end (Nat.le_refl _), Bool.false_and, if_neg (by simp)]
  cases ps with
  | nil => rfl
  | cons f r => exact if_neg (fun h' => h (by rw [List.length_cons, ← h']; rfl))
theorem bothO_one (old f : ByteArray) (n : Nat) : bothO old false n n [f] = some (f, f) := by
  unfold bothO
  rw [xsN_end (Nat.le_refl _), Bool.false_and, if_neg (by simp)]
  rfl
theorem bothO_nil (old : ByteArray) (wh : Bool) {n m : Nat} (h1 : 1 ≤ m) (h : m < n) : bothO old wh n m [] = none := by
  unfold bothO
  have : (xsN n m).length ≠ 0 := by
    by_cases hi : m ≤ splitN n
    · rw [xsN_left h1 h hi]; simp
    · rw [xsN_right h1 h hi]; simp
  split
  · exact if_neg (by simpa using this)
  · rfl
theorem bothO_left (old : ByteArray) (wh : Bool) {n m : Nat} (h1 : 1 ≤ m) (h : m < n) (hi : m ≤ splitN n) (qs : List ByteArray) (x : ByteArray) : bothO old wh n m (qs ++ [x]) = (bothO old wh (splitN n) m qs).map fun p => (p.1, nodeS p.2 x) := by
  unfold bothO
  rw [wholeN_left h1 h hi, xsN_left h1 h hi]
  by_cases hw : (wh && wholeN (splitN n) m) = true
  · rw [if_pos hw, if_pos hw]
    by_cases hl : (xsN (splitN n) m).length = qs.length
    · rw [if_pos hl, if_pos (by simp [hl]), shortV_more _ _ _ _ _ hl, climb_more _ _ _ _ _ hl]; rfl
    · rw [if_neg hl, if_neg (by simpa using hl)]; rfl
  · rw [if_neg hw, if_neg hw]
    cases qs with
    | nil => exact if_neg (by simp)
    | cons f r =>
      rw [List.cons_append]
      show (if _ then _ else _) = Option.map _ (if _ then _ else _)
      by_cases hl : (xsN (splitN n) m).length = r.length
      · rw [if_pos hl]
        rw [if_pos (by simp [hl])]
        rw [shortV_more _ _ _ _ _ hl, climb_more _ _ _ _ _ hl]; rfl
      · rw [if_neg hl, if_neg (by simpa using hl)]; rfl
theorem bothO_right (old : ByteArray) (wh : Bool) {n m : Nat} (h1 : 1 ≤ m) (h : m < n) (hi : ¬ m ≤ splitN n) (qs : List ByteArray) (x : ByteArray) : bothO old wh n m (qs ++ [x]) = (bothO old false (n - splitN n) (m - splitN n) qs).map fun p => (nodeS x p.1, nodeS x p.2) := by
  unfold bothO
  rw [wholeN_right h1 h hi, xsN_right h1 h hi, Bool.and_false, Bool.false_and, if_neg (by simp), if_neg (by simp)]
  cases qs with
  | nil => exact if_neg (by simp)
  | cons f r =>
    rw [List.cons_append]
    show (if _ then _ else _) = Option.map _ (if _ then _ else _)
    by_cases hl : (xsN (n - splitN n) (m - splitN n)).length = r.length
    · rw [if_pos hl]
      rw [if_pos (by simp [hl])]
      rw [shortV_more _ _ _ _ _ hl, climb_more _ _ _ _ _ hl]; rfl
    · rw [if_neg hl, if_neg (by simpa using hl)]; rfl
theorem extTest_both (old : ByteArray) (m : Nat) (root : ByteArray) (n : Nat) (ps : List ByteArray) : extTest old m root n ps = match bothO old true n m ps with | none => false | some p => decide (p.1 = old) && decide (p.2 = root) := by
  unfold extTest bothO
  rw [Bool.true_and]
  by_cases hw : wholeN n m = true
  · rw [if_pos hw, if_pos hw]
    by_cases hl : (xsN n m).length = ps.length
    · rw [if_pos hl, decide_eq_true hl]; rfl
    · rw [if_neg hl, decide_eq_false hl]; rfl
  · rw [if_neg hw, if_neg hw]
    cases ps with
    | nil => rfl
    | cons f r =>
      dsimp only
      by_cases hl : (xsN n m).length = r.length
      · rw [if_pos hl, decide_eq_true hl]; rfl
      · rw [if_neg hl, decide_eq_false hl]; rfl
/-- what both returns -/
def BothOut (w : World) (V : Option (ByteArray × ByteArray)) (e : Ending) (w' : World) : Prop := ∃ a b, e = .returned (.tuple #[.string a, .string b, .bool V.isSome]) ∧ (∀ p, V = some p → a = p.1 ∧ b = p.2) ∧ a.size ≤ 32 ∧ b.size ≤ 32 ∧ Below w.heap.size w w'
theorem map_pair {V : Option (ByteArray × ByteArray)} {a b : ByteArray} {f g : ByteArray → ByteArray} (h : ∀ p, V = some p → a = p.1 ∧ b = p.2) : ∀ p, (V.map fun p => (f p.1, g p.2)) = some p → f a = p.1 ∧ g b = p.2 := by
  cases V with
  | none => intro u hu; cases hu
  | some x =>
    intro u hu
    obtain ⟨rfl, rfl⟩ := h x rfl
    cases hu
    exact ⟨rfl, rfl⟩
set_option maxRecDepth 100000 in
set_option maxHeartbeats 2000000 in
theorem refBoth_any (old : ByteArray) (ho : old.size = 32) : ∀ (n : Nat) (ps : List ByteArray) (PL m : Nat) (wh : Bool) (o : Option Addr) (c : Nat) (w : World), ps.length = PL → PL ≤ 2 ^ 30 → 1 ≤ m → m ≤ n → n ≤ 9223372036854775807 → PL ≤ c → c ≤ 9223372036854775807 → StrSl w o ps → (∀ x ∈ ps, x.size = 32) →
    Calls Tryd.prog 58 #[.string old, .int .i64 m, .int .i64 n, .slice o PL c, .bool wh] w (BothOut w (bothO old wh n m ps)) := by
  intro n
  induction n using Nat.strongRecOn with
  | ind n ih =>
    intro ps PL m wh o c w hps h30 h1 hmn hn hpc hc hS hx
    have wI : IntKind.i64.wrap ((PL : Int) - 1) = (PL : Int) - 1 := by simp [IntKind.wrap, IntKind.bits, IntKind.signed]; omega
    by_cases hn1 : m = n
    · subst hn1
      have HB := Lib.hid (Below.refl w.heap.size w)
      cases wh with
      | true =>
        rw [bothO_whole, hps]
        clear ih hS hx
        by_cases h0 : PL = 0
        · subst h0
          rw [if_pos rfl]
          go_enter Tryd.func58, Tryd.ntmps58
          go_wp2_with fail
          go_ret3
          exact ⟨old, old, rfl, (fun p hp => by cases hp; exact ⟨rfl, rfl⟩), by omega, by omega, HB.out⟩
        · rw [if_neg h0]
          have d1 : decide ((PL : Int) - 1 < 0) = false := by simp; omega
          go_enter Tryd.func58, Tryd.ntmps58
          go_wp2_with fail
          go_ret3
          exact ⟨old, old, rfl, (fun p hp => by cases hp), by omega, by omega, HB.out⟩
      | false =>
        by_cases h0 : PL = 1
        · subst h0
          obtain ⟨f, rfl⟩ : ∃ f, ps = [f] := by
            match ps, hps with
            | [f], _ => exact ⟨f, rfl⟩
          have hf := hx f (by simp)
          rcases hS with h | ⟨b, off, rfl, hl, hcell⟩
          · simp at h
          have c1 : w.cell? ⟨b, off, none⟩ = some (.string f) := hcell 0 f rfl
          have c2 : w.drew.cell? ⟨b, off, none⟩ = some (.string f) := c1
          have HB3 := Lib.hid (Below.refl w.heap.size w).drew
          rw [bothO_one]
          clear ih hx hcell HB
          go_enter Tryd.func58, Tryd.ntmps58
          go_wp2_with fail
          go_region
          all_goals go_wp2_with fail
          all_goals go_ret3
          all_goals exact ⟨f, f, rfl, (fun p hp => by cases hp; exact ⟨rfl, rfl⟩), by omega, by omega, HB3.out⟩
        · rw [bothO_part old m ps (by omega)]
          have d1 : decide ((PL : Int) - 1 = 0) = false := by simp; omega
          have d2 : ((PL : Int) - 1 == 0) = false := by simp; omega
          have d3 : ((PL : Int) - 1 != 0) = true := by simp; omega
          have d4 : ¬ (PL : Int) - 1 = 0 := by omega
          clear ih hS hx
          go_enter Tryd.func58, Tryd.ntmps58
          go_wp2_with fail
          go_ret3
          exact ⟨⟨#[]⟩, ⟨#[]⟩, rfl, (fun p hp => by cases hp), (by decide), (by decide), HB.out⟩
    · have hlt : m < n := by omega
      have h2 : 2 ≤ n := by omega
      have dn : decide ((m : Int) = n) = false := by simp; omega
      have dm : ¬ (m : Int) = n := by omega
      have dp : ¬ m = n := hn1
      rcases List.eq_nil_or_concat ps with rfl | ⟨qs, x, rfl⟩
      · obtain rfl : PL = 0 := hps.symm
        rw [bothO_nil old wh h1 hlt]
        have HB := Lib.hid (Below.refl w.heap.size w)
        clear ih hS hx
        go_enter Tryd.func58, Tryd.ntmps58
        go_wp2_with fail
        go_ret3
        exact ⟨⟨#[]⟩, ⟨#[]⟩, rfl, (fun p hp => by cases hp), (by decide), (by decide), HB.out⟩
      · rw [List.concat_eq_append] at *
        obtain ⟨PQ, rfl⟩ : ∃ k, PL = k + 1 := ⟨PL - 1, by rw [← hps]; simp⟩
        have hq : qs.length = PQ := by simpa using hps
        have hxs : x.size = 32 := hx x (by simp)
        rcases hS with h | ⟨b, off, rfl, hl, hcell⟩
        · simp at h
        have c1 : w.cell? ⟨b, off + PQ, none⟩ = some (.string x) := hcell PQ x (by rw [← hq]; simp)
        have HQ := Lib.hid (show StrSl w (some ⟨b, off, none⟩) qs from .inr ⟨b, off, rfl, hl, fun j y hy => hcell j y (by
          rw [List.getElem?_append_left (List.getElem?_eq_some_iff.1 hy).1]; exact hy)⟩)
        have CP := Lib.hid (fun w => refLeft_any n w h2 hn)
        have k1 := splitN_lt h2
        have k0 := splitN_pos n
        have hqx : ∀ y ∈ qs, y.size = 32 := fun y hy => hx y (by simp [hy])
        have q0 : (PQ : Int) < ((PQ + 1 : Nat) : Int) := by omega
        clear wI
        by_cases hik : m ≤ splitN n
        · rw [bothO_left old wh h1 hlt hik]
          have C1 := Lib.hid (ih (splitN n) k1 qs PQ m wh (some ⟨b, off, none⟩) c w hq (by omega) h1 hik (by omega) (by omega) hc HQ.out hqx)
          have d1 : decide ((m : Int) ≤ (splitN n : Nat)) = true := by simp; omega
          unfold BothOut at C1
          generalize bothO old wh (splitN n) m qs = V at *
          generalize splitN n = K at *
          clear ih hx hqx hcell HQ hps
          go_enter Tryd.func58, Tryd.ntmps58
          go_wp2_with fail
          with_reducible refine Calls.mono (CP.out _) ?_
          rintro e w2 ⟨rfl, rfl⟩
          go_wp2_with fail
          with_reducible refine Calls.mono C1.out ?_
          rintro e w3 ⟨a, v, rfl, hv, has, hvs, hb⟩
          have HV := Lib.hid (map_pair (f := fun v => v) (g := fun v => nodeS v x) hv)
          have CN := Lib.hid (refNode_any v x w3 (by omega) (by omega))
          have c2 : w3.cell? ⟨b, off + PQ, none⟩ = some (.string x) := (hb.cell (p := ⟨b, off + PQ, none⟩) hl).trans c1
          have HB := Lib.hid hb
          have HNS := Lib.hid (And.intro has (nodeS_size v x))
          clear hv hb c1 has
          generalize nodeS v x = R at *
          go_wp2_with fail
          with_reducible refine Calls.mono CN.out ?_
          rintro e w4 ⟨rfl, hb⟩
          replace HB := Lib.hid (Below.andThen HB.out hb)
          clear hb
          go_wp2_with fail
          go_ret3
          exact ⟨a, R, (by rw [Option.isSome_map]; rfl), HV.out, HNS.out.1, (by rw [HNS.out.2]; exact Nat.le_refl _), HB.out⟩
        · rw [bothO_right old wh h1 hlt hik]
          have C1 := Lib.hid (ih (n - splitN n) (by omega) qs PQ (m - splitN n) false (some ⟨b, off, none⟩) c w hq (by omega) (by omega) (by omega) (by omega) (by omega) hc HQ.out hqx)
          rw [show ((n - splitN n : Nat) : Int) = (n : Int) - (splitN n : Nat) by omega, show ((m - splitN n : Nat) : Int) = (m : Int) - (splitN n : Nat) by omega] at C1
          have d1 : decide ((m : Int) ≤ (splitN n : Nat)) = false := by simp; omega
          unfold BothOut at C1
          generalize bothO old false (n - splitN n) (m - splitN n) qs = V at *
          generalize splitN n = K at *
          have wr1 : IntKind.i64.wrap ((n : Int) - (K : Int)) = (n : Int) - (K : Int) := by simp [IntKind.wrap, IntKind.bits, IntKind.signed]; omega
          have wr2 : IntKind.i64.wrap ((m : Int) - (K : Int)) = (m : Int) - (K : Int) := by simp [IntKind.wrap, IntKind.bits, IntKind.signed]; omega
          clear ih hx hqx hcell HQ hps
          go_enter Tryd.func58, Tryd.ntmps58
          go_wp2_with fail
          with_reducible refine Calls.mono (CP.out _) ?_
          rintro e w2 ⟨rfl, rfl⟩
          go_wp2_with fail
          with_reducible refine Calls.mono C1.out ?_
          rintro e w3 ⟨a, v, rfl, hv, has, hvs, hb⟩
          have HV := Lib.hid (map_pair (f := fun v => nodeS x v) (g := fun v => nodeS x v) hv)
          have CN := Lib.hid (fun (k : Kin w3) => refNode_any x v k.it (by omega) (by omega))
          have CM := Lib.hid (fun (k : Kin w3) => refNode_any x a k.it (by omega) (by omega))
          have c2 : w3.cell? ⟨b, off + PQ, none⟩ = some (.string x) := (hb.cell (p := ⟨b, off + PQ, none⟩) hl).trans c1
          have hl3 := Nat.lt_of_lt_of_le hl hb.size
          have HB := Lib.hid hb
          have HNS := Lib.hid (And.intro (nodeS_size x a) (nodeS_size x v))
          clear hv hb c1 has hvs
          by_cases hav : a = v
          · subst hav
            generalize nodeS x a = R at *
            go_wp2_with fail
            refine wp_region_kin (by kernel_rfl) (by kernel_rfl) w3.heap.size 0 (by simp) (fun hk => ?_)
            repeat (go_big_quiet_step (first | (go_at_call 18; with_reducible exact Calls.kin (CN.out _))))
            refine wpQuiet_nil ?_
            clear hk
            intro w4 hb
            replace HB := Lib.hid (Below.andThen HB.out hb)
            clear hb
            go_wp2_with fail
            go_ret3
            exact ⟨R, R, (by rw [Option.isSome_map]; rfl), HV.out, (by rw [HNS.out.2]; exact Nat.le_refl _), (by rw [HNS.out.2]; exact Nat.le_refl _), HB.out⟩
          · generalize nodeS x v = R at *
            generalize nodeS x a = R2 at *
            go_wp2_with fail
            refine wp_region_kin (by kernel_rfl) (by kernel_rfl) w3.heap.size 0 (by simp) (fun hk => ?_)
            repeat (go_big_quiet_step (first | (go_at_call 18; first | with_reducible exact Calls.kin (CN.out _) | with_reducible exact Calls.kin (CM.out _))))
            refine wpQuiet_nil ?_
            clear hk
            intro w4 hb
            replace HB := Lib.hid (Below.andThen HB.out hb)
            clear hb
            go_wp2_with fail
            go_ret3
            exact ⟨R2, R, (by rw [Option.isSome_map]; rfl), HV.out, (by rw [HNS.out.1]; exact Nat.le_refl _), (by rw [HNS.out.2]; exact Nat.le_refl _), HB.out⟩
end Go.Proofs.YtojfblkmhdgjeaaDoor
