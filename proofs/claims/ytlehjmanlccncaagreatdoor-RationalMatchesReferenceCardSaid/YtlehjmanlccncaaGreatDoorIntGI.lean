/- Integers as strings: what the package exports. -/
/- Integers as strings: Compare, FromInt, ToInt, Root. -/
/- Integers as strings: Div. -/
import Derived.Test.YtlehjmanlccncaaGreatDoorIntGH
set_option linter.unusedVariables false
set_option linter.unusedSimpArgs false
namespace Go.Proofs.YtlehjmanlccncaaGreatDoor
open Go.RowKit

theorem fit_groups {z : Int} (h : In.Fit z) : (In.gs z.natAbs).length ≤ 50 := by
  refine In.gr_len_le (by decide) _ _ (Nat.lt_of_lt_of_le h ?_)
  rw [show (10000 : Nat) = 10 ^ 4 from rfl, ← Nat.pow_mul]
  exact Nat.le_refl _
theorem gs_len_Add (x y : Int) : (In.gs (x + y).natAbs).length ≤ (In.gs x.natAbs).length + (In.gs y.natAbs).length + 1 := by
  have h1 := gs_len_le (Int.natAbs_add_le x y)
  have h2 := In.gs_len_add x.natAbs y.natAbs
  omega
theorem gs_len_Sub (x y : Int) : (In.gs (x - y).natAbs).length ≤ (In.gs x.natAbs).length + (In.gs y.natAbs).length + 1 := by
  have h1 := gs_len_Add x (-y)
  rw [Int.natAbs_neg] at h1
  exact h1
theorem gs_len_Mul (x y : Int) : (In.gs (x * y).natAbs).length ≤ (In.gs x.natAbs).length + (In.gs y.natAbs).length := by
  rw [Int.natAbs_mul]
  exact gs_len_mul _ _
theorem gs_len_Gcd (x y : Int) : (In.gs (In.gcdZ x y).natAbs).length ≤ (In.gs x.natAbs).length + (In.gs y.natAbs).length := by
  show (In.gs (Int.natAbs ((Nat.gcd x.natAbs y.natAbs : Nat) : Int))).length ≤ _
  rw [Int.natAbs_natCast]
  rcases Nat.eq_zero_or_pos x.natAbs with h | h
  · rw [h, Nat.gcd_zero_left]
    omega
  · have h1 := gs_len_le (Nat.gcd_le_left y.natAbs h)
    omega
theorem num_valid {s : ByteArray} {x : Int} (h : In.num s = some x) : In.validL s.data.toList = true ∧ In.valL s.data.toList = x ∧ In.Fit x := by
  have h0 := In.num_some h
  unfold In.num at h
  split at h
  · rename_i hv
    exact ⟨hv, Option.some.inj h, h0.2⟩
  · cases h
theorem num_bad {a b : ByteArray} (h : In.num a = none ∨ In.num b = none) : (In.validL a.data.toList && In.validL b.data.toList) = false := by
  rcases h with h | h
  · rw [In.num_none.1 h, Bool.false_and]
  · rw [In.num_none.1 h, Bool.and_false]
theorem opS_bad {f : Int → Int → Int} {a b : ByteArray} (h : In.num a = none ∨ In.num b = none) : In.opS f a b = (⟨#[]⟩, 30) := by
  rcases h with h | h
  · exact In.opS_left h
  · exact In.opS_right h
set_option maxRecDepth 100000 in
set_option maxHeartbeats 2000000 in
theorem calc_ok_Add (f : Int → Int → Int) (a b : ByteArray) (x y : Int) (w : World) (ht : TabI w) (ha : In.num a = some x) (hb : In.num b = some y) (hl : (In.gs (f x y).natAbs).length ≤ 700)
    (hF : ∀ W u v, NumV W u x → NumV W v y → Calls Tryz.prog 96 #[u, v] W fun e w' => ∃ r, e = .returned r ∧ NumV w' r (f x y) ∧ Below W.heap.size W w') :
    Calls Tryz.prog 90 #[.string a, .string b, .func (.func 96) #[] #[]] w fun e w' => e = .returned (.tuple #[.string (In.fit (f x y)).1, .int .i64 (In.fit (f x y)).2]) ∧ Below w.heap.size w w' := by
  obtain ⟨a1, a2, _⟩ := num_valid ha
  obtain ⟨b1, b2, _⟩ := num_valid hb
  have CR := Lib.hid (read_ok a b w a1 b1)
  rw [a2, b2] at CR
  have HF := Lib.hid hF
  have HT := Lib.hid ht
  have CP := Lib.hid (fun W u h ht => printZ_any u (f x y) W h hl ht)
  generalize In.fit (f x y) = R at *
  obtain ⟨R1, R2⟩ := R
  generalize f x y = z at *
  clear ha hb a1 a2 b1 b2 ht hF hl
  go_enter Tryz.func90, Tryz.ntmps90
  go_wp2_with fail
  refine Calls.mono CR.out ?_
  rintro e w2 ⟨u, v, rfl, hu, hv, hb⟩
  have HN := Lib.hid (And.intro hu (And.intro hv hb))
  obtain ⟨o, L, c, s, rfl, _, _, _⟩ := hu.form
  obtain ⟨o', L', c', s', rfl, _, _, _⟩ := hv.form
  clear hu hv hb CR
  go_upto_region 2 with (fail)
  refine wp_named fun w3 hw => ?_
  obtain ⟨b1, hb1⟩ : ∃ x, x = w2.heap.size := ⟨_, rfl⟩
  obtain ⟨b2, hb2⟩ : ∃ x, x = w2.heap.size + 1 := ⟨_, rfl⟩
  have R1 : Row w3 b1 91 [.slice o L c, .bool s] ∧ Row w3 b2 91 [.slice o' L' c', .bool s'] ∧ Below w2.heap.size w2 w3 := by
    rw [hw, hb1, hb2]
    exact boxes1 w2 _ [.slice o L c, .bool s] [.slice o' L' c', .bool s']
  rw [← hb2, ← hb1]
  have k0 := (Row.cell R1.1 0).trans (show _ = some (.slice o L c) from rfl)
  have k1 := (Row.cell R1.1 1).trans (show _ = some (.bool s) from rfl)
  have k2 := (Row.cell R1.2.1 0).trans (show _ = some (.slice o' L' c') from rfl)
  have k3 := (Row.cell R1.2.1 1).trans (show _ = some (.bool s') from rfl)
  have CF := Lib.hid (HF.out w3 _ _ (HN.out.1.next R1.2.2) (HN.out.2.1.next R1.2.2))
  have HB3 := Lib.hid (Below.andThen HN.out.2.2 R1.2.2)
  clear hw R1 hb1 hb2 HF
  go_wp2_with fail
  refine Calls.mono CF.out ?_
  rintro e w4 ⟨r, rfl, hr, hb⟩
  have CP2 := Lib.hid (CP.out w4 r hr (TabI.next HT.out (Below.andThen HB3.out hb)))
  have HB4 := Lib.hid (Below.andThen HB3.out hb)
  clear hr hb CF CP k0 k1 k2 k3
  go_wp2_with fail
  refine Calls.mono CP2.out ?_
  rintro e w5 ⟨rfl, hb⟩
  have HB5 := Lib.hid (Below.andThen HB4.out hb)
  clear hb
  go_wp2_with fail
  go_ret2
  exact ⟨rfl, HB5.out⟩
set_option maxRecDepth 100000 in
set_option maxHeartbeats 2000000 in
theorem calc_bad_Add (a b : ByteArray) (w : World) (h : In.num a = none ∨ In.num b = none) :
    Calls Tryz.prog 90 #[.string a, .string b, .func (.func 96) #[] #[]] w fun e w' => e = .returned (.tuple #[.string ⟨#[]⟩, .int .i64 30]) ∧ Below w.heap.size w w' := by
  have CR := Lib.hid (read_bad a b w (num_bad h))
  clear h
  go_enter Tryz.func90, Tryz.ntmps90
  go_wp2_with fail
  refine Calls.mono CR.out ?_
  rintro e w2 ⟨rfl, hb⟩
  have HB := Lib.hid hb
  clear hb
  go_wp2_with fail
  go_ret2
  exact ⟨rfl, (HB.out.alloc HB.out.size _).alloc (by have := HB.out.size; simp; omega) _⟩
theorem len_Add {x y : Int} (hx : In.Fit x) (hy : In.Fit y) : (In.gs ((fun x y => x + y) x y).natAbs).length ≤ 700 := by
  have h1 := fit_groups hx
  have h2 := fit_groups hy
  exact Nat.le_trans (gs_len_Add x y) (by omega)
theorem Add_any (a b : ByteArray) (w : World) (ht : TabI w) :
    Calls Tryz.prog 65 #[.string a, .string b] w fun e w' => e = .returned (.tuple #[.string (In.opS (fun x y => x + y) a b).1, .int .i64 (In.opS (fun x y => x + y) a b).2]) ∧ Below w.heap.size w w' := by
  have C : Calls Tryz.prog 90 #[.string a, .string b, .func (.func 96) #[] #[]] w fun e w' => e = .returned (.tuple #[.string (In.opS (fun x y => x + y) a b).1, .int .i64 (In.opS (fun x y => x + y) a b).2]) ∧ Below w.heap.size w w' := by
    cases ha : In.num a with
    | none => rw [opS_bad (.inl ha)]; exact calc_bad_Add a b w (.inl ha)
    | some x =>
      cases hb : In.num b with
      | none => rw [opS_bad (.inr hb)]; exact calc_bad_Add a b w (.inr hb)
      | some y =>
        obtain ⟨_, _, fx⟩ := num_valid ha
        obtain ⟨_, _, fy⟩ := num_valid hb
        have lx := fit_groups fx
        have ly := fit_groups fy
        rw [In.opS_some ha hb]
        exact calc_ok_Add (fun x y => x + y) a b x y w ht ha hb (len_Add fx fy) (fun W u v hu hv => (plusZ_any u v x y W hu hv (by omega) (by omega)))
  have HC := Lib.hid C
  clear C ht
  generalize In.opS (fun x y => x + y) a b = R at *
  obtain ⟨R1, R2⟩ := R
  go_enter Tryz.func65, Tryz.ntmps65
  go_wp2_with fail
  refine Calls.mono HC.out ?_
  rintro e w2 ⟨rfl, hb⟩
  have HB := Lib.hid hb
  clear hb
  go_wp2_with fail
  go_ret2
  exact ⟨rfl, HB.out⟩
set_option maxRecDepth 100000 in
set_option maxHeartbeats 2000000 in
theorem calc_ok_Sub (f : Int → Int → Int) (a b : ByteArray) (x y : Int) (w : World) (ht : TabI w) (ha : In.num a = some x) (hb : In.num b = some y) (hl : (In.gs (f x y).natAbs).length ≤ 700)
    (hF : ∀ W u v, NumV W u x → NumV W v y → Calls Tryz.prog 99 #[u, v] W fun e w' => ∃ r, e = .returned r ∧ NumV w' r (f x y) ∧ Below W.heap.size W w') :
    Calls Tryz.prog 90 #[.string a, .string b, .func (.func 99) #[] #[]] w fun e w' => e = .returned (.tuple #[.string (In.fit (f x y)).1, .int .i64 (In.fit (f x y)).2]) ∧ Below w.heap.size w w' := by
  obtain ⟨a1, a2, _⟩ := num_valid ha
  obtain ⟨b1, b2, _⟩ := num_valid hb
  have CR := Lib.hid (read_ok a b w a1 b1)
  rw [a2, b2] at CR
  have HF := Lib.hid hF
  have HT := Lib.hid ht
  have CP := Lib.hid (fun W u h ht => printZ_any u (f x y) W h hl ht)
  generalize In.fit (f x y) = R at *
  obtain ⟨R1, R2⟩ := R
  generalize f x y = z at *
  clear ha hb a1 a2 b1 b2 ht hF hl
  go_enter Tryz.func90, Tryz.ntmps90
  go_wp2_with fail
  refine Calls.mono CR.out ?_
  rintro e w2 ⟨u, v, rfl, hu, hv, hb⟩
  have HN := Lib.hid (And.intro hu (And.intro hv hb))
  obtain ⟨o, L, c, s, rfl, _, _, _⟩ := hu.form
  obtain ⟨o', L', c', s', rfl, _, _, _⟩ := hv.form
  clear hu hv hb CR
  go_upto_region 2 with (fail)
  refine wp_named fun w3 hw => ?_
  obtain ⟨b1, hb1⟩ : ∃ x, x = w2.heap.size := ⟨_, rfl⟩
  obtain ⟨b2, hb2⟩ : ∃ x, x = w2.heap.size + 1 := ⟨_, rfl⟩
  have R1 : Row w3 b1 91 [.slice o L c, .bool s] ∧ Row w3 b2 91 [.slice o' L' c', .bool s'] ∧ Below w2.heap.size w2 w3 := by
    rw [hw, hb1, hb2]
    exact boxes1 w2 _ [.slice o L c, .bool s] [.slice o' L' c', .bool s']
  rw [← hb2, ← hb1]
  have k0 := (Row.cell R1.1 0).trans (show _ = some (.slice o L c) from rfl)
  have k1 := (Row.cell R1.1 1).trans (show _ = some (.bool s) from rfl)
  have k2 := (Row.cell R1.2.1 0).trans (show _ = some (.slice o' L' c') from rfl)
  have k3 := (Row.cell R1.2.1 1).trans (show _ = some (.bool s') from rfl)
  have CF := Lib.hid (HF.out w3 _ _ (HN.out.1.next R1.2.2) (HN.out.2.1.next R1.2.2))
  have HB3 := Lib.hid (Below.andThen HN.out.2.2 R1.2.2)
  clear hw R1 hb1 hb2 HF
  go_wp2_with fail
  refine Calls.mono CF.out ?_
  rintro e w4 ⟨r, rfl, hr, hb⟩
  have CP2 := Lib.hid (CP.out w4 r hr (TabI.next HT.out (Below.andThen HB3.out hb)))
  have HB4 := Lib.hid (Below.andThen HB3.out hb)
  clear hr hb CF CP k0 k1 k2 k3
  go_wp2_with fail
  refine Calls.mono CP2.out ?_
  rintro e w5 ⟨rfl, hb⟩
  have HB5 := Lib.hid (Below.andThen HB4.out hb)
  clear hb
  go_wp2_with fail
  go_ret2
  exact ⟨rfl, HB5.out⟩
set_option maxRecDepth 100000 in
set_option maxHeartbeats 2000000 in
theorem calc_bad_Sub (a b : ByteArray) (w : World) (h : In.num a = none ∨ In.num b = none) :
    Calls Tryz.prog 90 #[.string a, .string b, .func (.func 99) #[] #[]] w fun e w' => e = .returned (.tuple #[.string ⟨#[]⟩, .int .i64 30]) ∧ Below w.heap.size w w' := by
  have CR := Lib.hid (read_bad a b w (num_bad h))
  clear h
  go_enter Tryz.func90, Tryz.ntmps90
  go_wp2_with fail
  refine Calls.mono CR.out ?_
  rintro e w2 ⟨rfl, hb⟩
  have HB := Lib.hid hb
  clear hb
  go_wp2_with fail
  go_ret2
  exact ⟨rfl, (HB.out.alloc HB.out.size _).alloc (by have := HB.out.size; simp; omega) _⟩
theorem len_Sub {x y : Int} (hx : In.Fit x) (hy : In.Fit y) : (In.gs ((fun x y => x - y) x y).natAbs).length ≤ 700 := by
  have h1 := fit_groups hx
  have h2 := fit_groups hy
  exact Nat.le_trans (gs_len_Sub x y) (by omega)
theorem Sub_any (a b : ByteArray) (w : World) (ht : TabI w) :
    Calls Tryz.prog 69 #[.string a, .string b] w fun e w' => e = .returned (.tuple #[.string (In.opS (fun x y => x - y) a b).1, .int .i64 (In.opS (fun x y => x - y) a b).2]) ∧ Below w.heap.size w w' := by
  have C : Calls Tryz.prog 90 #[.string a, .string b, .func (.func 99) #[] #[]] w fun e w' => e = .returned (.tuple #[.string (In.opS (fun x y => x - y) a b).1, .int .i64 (In.opS (fun x y => x - y) a b).2]) ∧ Below w.heap.size w w' := by
    cases ha : In.num a with
    | none => rw [opS_bad (.inl ha)]; exact calc_bad_Sub a b w (.inl ha)
    | some x =>
      cases hb : In.num b with
      | none => rw [opS_bad (.inr hb)]; exact calc_bad_Sub a b w (.inr hb)
      | some y =>
        obtain ⟨_, _, fx⟩ := num_valid ha
        obtain ⟨_, _, fy⟩ := num_valid hb
        have lx := fit_groups fx
        have ly := fit_groups fy
        rw [In.opS_some ha hb]
        exact calc_ok_Sub (fun x y => x - y) a b x y w ht ha hb (len_Sub fx fy) (fun W u v hu hv => (subZ_any u v x y W hu hv (by omega) (by omega)))
  have HC := Lib.hid C
  clear C ht
  generalize In.opS (fun x y => x - y) a b = R at *
  obtain ⟨R1, R2⟩ := R
  go_enter Tryz.func69, Tryz.ntmps69
  go_wp2_with fail
  refine Calls.mono HC.out ?_
  rintro e w2 ⟨rfl, hb⟩
  have HB := Lib.hid hb
  clear hb
  go_wp2_with fail
  go_ret2
  exact ⟨rfl, HB.out⟩
set_option maxRecDepth 100000 in
set_option maxHeartbeats 2000000 in
theorem calc_ok_Mul (f : Int → Int → Int) (a b : ByteArray) (x y : Int) (w : World) (ht : TabI w) (ha : In.num a = some x) (hb : In.num b = some y) (hl : (In.gs (f x y).natAbs).length ≤ 700)
    (hF : ∀ W u v, NumV W u x → NumV W v y → Calls Tryz.prog 98 #[u, v] W fun e w' => ∃ r, e = .returned r ∧ NumV w' r (f x y) ∧ Below W.heap.size W w') :
    Calls Tryz.prog 90 #[.string a, .string b, .func (.func 98) #[] #[]] w fun e w' => e = .returned (.tuple #[.string (In.fit (f x y)).1, .int .i64 (In.fit (f x y)).2]) ∧ Below w.heap.size w w' := by
  obtain ⟨a1, a2, _⟩ := num_valid ha
  obtain ⟨b1, b2, _⟩ := num_valid hb
  have CR := Lib.hid (read_ok a b w a1 b1)
  rw [a2, b2] at CR
  have HF := Lib.hid hF
  have HT := Lib.hid ht
  have CP := Lib.hid (fun W u h ht => printZ_any u (f x y) W h hl ht)
  generalize In.fit (f x y) = R at *
  obtain ⟨R1, R2⟩ := R
  generalize f x y = z at *
  clear ha hb a1 a2 b1 b2 ht hF hl
  go_enter Tryz.func90, Tryz.ntmps90
  go_wp2_with fail
  refine Calls.mono CR.out ?_
  rintro e w2 ⟨u, v, rfl, hu, hv, hb⟩
  have HN := Lib.hid (And.intro hu (And.intro hv hb))
  obtain ⟨o, L, c, s, rfl, _, _, _⟩ := hu.form
  obtain ⟨o', L', c', s', rfl, _, _, _⟩ := hv.form
  clear hu hv hb CR
  go_upto_region 2 with (fail)
  refine wp_named fun w3 hw => ?_
  obtain ⟨b1, hb1⟩ : ∃ x, x = w2.heap.size := ⟨_, rfl⟩
  obtain ⟨b2, hb2⟩ : ∃ x, x = w2.heap.size + 1 := ⟨_, rfl⟩
  have R1 : Row w3 b1 91 [.slice o L c, .bool s] ∧ Row w3 b2 91 [.slice o' L' c', .bool s'] ∧ Below w2.heap.size w2 w3 := by
    rw [hw, hb1, hb2]
    exact boxes1 w2 _ [.slice o L c, .bool s] [.slice o' L' c', .bool s']
  rw [← hb2, ← hb1]
  have k0 := (Row.cell R1.1 0).trans (show _ = some (.slice o L c) from rfl)
  have k1 := (Row.cell R1.1 1).trans (show _ = some (.bool s) from rfl)
  have k2 := (Row.cell R1.2.1 0).trans (show _ = some (.slice o' L' c') from rfl)
  have k3 := (Row.cell R1.2.1 1).trans (show _ = some (.bool s') from rfl)
  have CF := Lib.hid (HF.out w3 _ _ (HN.out.1.next R1.2.2) (HN.out.2.1.next R1.2.2))
  have HB3 := Lib.hid (Below.andThen HN.out.2.2 R1.2.2)
  clear hw R1 hb1 hb2 HF
  go_wp2_with fail
  refine Calls.mono CF.out ?_
  rintro e w4 ⟨r, rfl, hr, hb⟩
  have CP2 := Lib.hid (CP.out w4 r hr (TabI.next HT.out (Below.andThen HB3.out hb)))
  have HB4 := Lib.hid (Below.andThen HB3.out hb)
  clear hr hb CF CP k0 k1 k2 k3
  go_wp2_with fail
  refine Calls.mono CP2.out ?_
  rintro e w5 ⟨rfl, hb⟩
  have HB5 := Lib.hid (Below.andThen HB4.out hb)
  clear hb
  go_wp2_with fail
  go_ret2
  exact ⟨rfl, HB5.out⟩
set_option maxRecDepth 100000 in
set_option maxHeartbeats 2000000 in
theorem calc_bad_Mul (a b : ByteArray) (w : World) (h : In.num a = none ∨ In.num b = none) :
    Calls Tryz.prog 90 #[.string a, .string b, .func (.func 98) #[] #[]] w fun e w' => e = .returned (.tuple #[.string ⟨#[]⟩, .int .i64 30]) ∧ Below w.heap.size w w' := by
  have CR := Lib.hid (read_bad a b w (num_bad h))
  clear h
  go_enter Tryz.func90, Tryz.ntmps90
  go_wp2_with fail
  refine Calls.mono CR.out ?_
  rintro e w2 ⟨rfl, hb⟩
  have HB := Lib.hid hb
  clear hb
  go_wp2_with fail
  go_ret2
  exact ⟨rfl, (HB.out.alloc HB.out.size _).alloc (by have := HB.out.size; simp; omega) _⟩
theorem len_Mul {x y : Int} (hx : In.Fit x) (hy : In.Fit y) : (In.gs ((fun x y => x * y) x y).natAbs).length ≤ 700 := by
  have h1 := fit_groups hx
  have h2 := fit_groups hy
  exact Nat.le_trans (gs_len_Mul x y) (by omega)
theorem Mul_any (a b : ByteArray) (w : World) (ht : TabI w) :
    Calls Tryz.prog 68 #[.string a, .string b] w fun e w' => e = .returned (.tuple #[.string (In.opS (fun x y => x * y) a b).1, .int .i64 (In.opS (fun x y => x * y) a b).2]) ∧ Below w.heap.size w w' := by
  have C : Calls Tryz.prog 90 #[.string a, .string b, .func (.func 98) #[] #[]] w fun e w' => e = .returned (.tuple #[.string (In.opS (fun x y => x * y) a b).1, .int .i64 (In.opS (fun x y => x * y) a b).2]) ∧ Below w.heap.size w w' := by
    cases ha : In.num a with
    | none => rw [opS_bad (.inl ha)]; exact calc_bad_Mul a b w (.inl ha)
    | some x =>
      cases hb : In.num b with
      | none => rw [opS_bad (.inr hb)]; exact calc_bad_Mul a b w (.inr hb)
      | some y =>
        obtain ⟨_, _, fx⟩ := num_valid ha
        obtain ⟨_, _, fy⟩ := num_valid hb
        have lx := fit_groups fx
        have ly := fit_groups fy
        rw [In.opS_some ha hb]
        exact calc_ok_Mul (fun x y => x * y) a b x y w ht ha hb (len_Mul fx fy) (fun W u v hu hv => (timesZ_any u v x y W hu hv (by omega)))
  have HC := Lib.hid C
  clear C ht
  generalize In.opS (fun x y => x * y) a b = R at *
  obtain ⟨R1, R2⟩ := R
  go_enter Tryz.func68, Tryz.ntmps68
  go_wp2_with fail
  refine Calls.mono HC.out ?_
  rintro e w2 ⟨rfl, hb⟩
  have HB := Lib.hid hb
  clear hb
  go_wp2_with fail
  go_ret2
  exact ⟨rfl, HB.out⟩
set_option maxRecDepth 100000 in
set_option maxHeartbeats 2000000 in
theorem calc_ok_Gcd (f : Int → Int → Int) (a b : ByteArray) (x y : Int) (w : World) (ht : TabI w) (ha : In.num a = some x) (hb : In.num b = some y) (hl : (In.gs (f x y).natAbs).length ≤ 700)
    (hF : ∀ W u v, NumV W u x → NumV W v y → Calls Tryz.prog 91 #[u, v] W fun e w' => ∃ r, e = .returned r ∧ NumV w' r (f x y) ∧ Below W.heap.size W w') :
    Calls Tryz.prog 90 #[.string a, .string b, .func (.func 91) #[] #[]] w fun e w' => e = .returned (.tuple #[.string (In.fit (f x y)).1, .int .i64 (In.fit (f x y)).2]) ∧ Below w.heap.size w w' := by
  obtain ⟨a1, a2, _⟩ := num_valid ha
  obtain ⟨b1, b2, _⟩ := num_valid hb
  have CR := Lib.hid (read_ok a b w a1 b1)
  rw [a2, b2] at CR
  have HF := Lib.hid hF
  have HT := Lib.hid ht
  have CP := Lib.hid (fun W u h ht => printZ_any u (f x y) W h hl ht)
  generalize In.fit (f x y) = R at *
  obtain ⟨R1, R2⟩ := R
  generalize f x y = z at *
  clear ha hb a1 a2 b1 b2 ht hF hl
  go_enter Tryz.func90, Tryz.ntmps90
  go_wp2_with fail
  refine Calls.mono CR.out ?_
  rintro e w2 ⟨u, v, rfl, hu, hv, hb⟩
  have HN := Lib.hid (And.intro hu (And.intro hv hb))
  obtain ⟨o, L, c, s, rfl, _, _, _⟩ := hu.form
  obtain ⟨o', L', c', s', rfl, _, _, _⟩ := hv.form
  clear hu hv hb CR
  go_upto_region 2 with (fail)
  refine wp_named fun w3 hw => ?_
  obtain ⟨b1, hb1⟩ : ∃ x, x = w2.heap.size := ⟨_, rfl⟩
  obtain ⟨b2, hb2⟩ : ∃ x, x = w2.heap.size + 1 := ⟨_, rfl⟩
  have R1 : Row w3 b1 91 [.slice o L c, .bool s] ∧ Row w3 b2 91 [.slice o' L' c', .bool s'] ∧ Below w2.heap.size w2 w3 := by
    rw [hw, hb1, hb2]
    exact boxes1 w2 _ [.slice o L c, .bool s] [.slice o' L' c', .bool s']
  rw [← hb2, ← hb1]
  have k0 := (Row.cell R1.1 0).trans (show _ = some (.slice o L c) from rfl)
  have k1 := (Row.cell R1.1 1).trans (show _ = some (.bool s) from rfl)
  have k2 := (Row.cell R1.2.1 0).trans (show _ = some (.slice o' L' c') from rfl)
  have k3 := (Row.cell R1.2.1 1).trans (show _ = some (.bool s') from rfl)
  have CF := Lib.hid (HF.out w3 _ _ (HN.out.1.next R1.2.2) (HN.out.2.1.next R1.2.2))
  have HB3 := Lib.hid (Below.andThen HN.out.2.2 R1.2.2)
  clear hw R1 hb1 hb2 HF
  go_wp2_with fail
  refine Calls.mono CF.out ?_
  rintro e w4 ⟨r, rfl, hr, hb⟩
  have CP2 := Lib.hid (CP.out w4 r hr (TabI.next HT.out (Below.andThen HB3.out hb)))
  have HB4 := Lib.hid (Below.andThen HB3.out hb)
  clear hr hb CF CP k0 k1 k2 k3
  go_wp2_with fail
  refine Calls.mono CP2.out ?_
  rintro e w5 ⟨rfl, hb⟩
  have HB5 := Lib.hid (Below.andThen HB4.out hb)
  clear hb
  go_wp2_with fail
  go_ret2
  exact ⟨rfl, HB5.out⟩
set_option maxRecDepth 100000 in
set_option maxHeartbeats 2000000 in
theorem calc_bad_Gcd (a b : ByteArray) (w : World) (h : In.num a = none ∨ In.num b = none) :
    Calls Tryz.prog 90 #[.string a, .string b, .func (.func 91) #[] #[]] w fun e w' => e = .returned (.tuple #[.string ⟨#[]⟩, .int .i64 30]) ∧ Below w.heap.size w w' := by
  have CR := Lib.hid (read_bad a b w (num_bad h))
  clear h
  go_enter Tryz.func90, Tryz.ntmps90
  go_wp2_with fail
  refine Calls.mono CR.out ?_
  rintro e w2 ⟨rfl, hb⟩
  have HB := Lib.hid hb
  clear hb
  go_wp2_with fail
  go_ret2
  exact ⟨rfl, (HB.out.alloc HB.out.size _).alloc (by have := HB.out.size; simp; omega) _⟩
theorem len_Gcd {x y : Int} (hx : In.Fit x) (hy : In.Fit y) : (In.gs (In.gcdZ x y).natAbs).length ≤ 700 := by
  have h1 := fit_groups hx
  have h2 := fit_groups hy
  exact Nat.le_trans (gs_len_Gcd x y) (by omega)
theorem Gcd_any (a b : ByteArray) (w : World) (ht : TabI w) :
    Calls Tryz.prog 61 #[.string a, .string b] w fun e w' => e = .returned (.tuple #[.string (In.opS In.gcdZ a b).1, .int .i64 (In.opS In.gcdZ a b).2]) ∧ Below w.heap.size w w' := by
  have C : Calls Tryz.prog 90 #[.string a, .string b, .func (.func 91) #[] #[]] w fun e w' => e = .returned (.tuple #[.string (In.opS In.gcdZ a b).1, .int .i64 (In.opS In.gcdZ a b).2]) ∧ Below w.heap.size w w' := by
    cases ha : In.num a with
    | none => rw [opS_bad (.inl ha)]; exact calc_bad_Gcd a b w (.inl ha)
    | some x =>
      cases hb : In.num b with
      | none => rw [opS_bad (.inr hb)]; exact calc_bad_Gcd a b w (.inr hb)
      | some y =>
        obtain ⟨_, _, fx⟩ := num_valid ha
        obtain ⟨_, _, fy⟩ := num_valid hb
        have lx := fit_groups fx
        have ly := fit_groups fy
        rw [In.opS_some ha hb]
        exact calc_ok_Gcd In.gcdZ a b x y w ht ha hb (len_Gcd fx fy) (fun W u v hu hv => (gcdZ_any u v x y W hu hv (by omega) (by omega)))
  have HC := Lib.hid C
  clear C ht
  generalize In.opS In.gcdZ a b = R at *
  obtain ⟨R1, R2⟩ := R
  go_enter Tryz.func61, Tryz.ntmps61
  go_wp2_with fail
  refine Calls.mono HC.out ?_
  rintro e w2 ⟨rfl, hb⟩
  have HB := Lib.hid hb
  clear hb
  go_wp2_with fail
  go_ret2
  exact ⟨rfl, HB.out⟩
end Go.Proofs.YtlehjmanlccncaaGreatDoor
set_option linter.unusedVariables false
set_option linter.unusedSimpArgs false
namespace Go.Proofs.YtlehjmanlccncaaGreatDoor
open Go.RowKit

set_option maxRecDepth 100000 in
set_option maxHeartbeats 2000000 in
theorem Compare_any (a b : ByteArray) (w : World) : Calls Tryz.prog 51 #[.string a, .string b] w fun e w' => e = .returned (.int .i64 (In.cmpS a b)) ∧ Below w.heap.size w w' := by
  have bad : (In.num a = none ∨ In.num b = none) → Calls Tryz.prog 51 #[.string a, .string b] w fun e w' => e = .returned (.int .i64 0) ∧ Below w.heap.size w w' := by
    intro h
    have CR := Lib.hid (read_bad a b w (num_bad h))
    clear h
    go_enter Tryz.func51, Tryz.ntmps51
    go_wp2_with fail
    refine Calls.mono CR.out ?_
    rintro e w2 ⟨rfl, hb⟩
    have HB := Lib.hid hb
    clear hb
    go_wp2_with fail
    go_ret
    exact ⟨rfl, (HB.out.alloc HB.out.size _).alloc (by have := HB.out.size; simp; omega) _⟩
  cases ha : In.num a with
  | none => rw [In.cmpS_left ha]; exact bad (.inl ha)
  | some x =>
    cases hb : In.num b with
    | none => rw [In.cmpS_right hb]; exact bad (.inr hb)
    | some y =>
      clear bad
      rw [In.cmpS_some ha hb]
      obtain ⟨a1, a2, fx⟩ := num_valid ha
      obtain ⟨b1, b2, fy⟩ := num_valid hb
      have lx := fit_groups fx
      have ly := fit_groups fy
      have CR := Lib.hid (read_ok a b w a1 b1)
      rw [a2, b2] at CR
      have CC := Lib.hid (fun u v W h h' => compareZ_any u v x y W h h' (by omega) (by omega))
      clear ha hb a1 a2 b1 b2 lx ly fx fy
      go_enter Tryz.func51, Tryz.ntmps51
      go_wp2_with fail
      refine Calls.mono CR.out ?_
      rintro e w2 ⟨u, v, rfl, hu, hv, hb⟩
      have HN := Lib.hid (And.intro hu (And.intro hv hb))
      obtain ⟨o, L, c, s, rfl, _, _, _⟩ := hu.form
      obtain ⟨o', L', c', s', rfl, _, _, _⟩ := hv.form
      clear hu hv hb CR
      go_upto_region 2 with (fail)
      refine wp_named fun w3 hw => ?_
      obtain ⟨b1, hb1⟩ : ∃ x, x = w2.heap.size := ⟨_, rfl⟩
      obtain ⟨b2, hb2⟩ : ∃ x, x = w2.heap.size + 1 := ⟨_, rfl⟩
      have R1 : Row w3 b1 91 [.slice o L c, .bool s] ∧ Row w3 b2 91 [.slice o' L' c', .bool s'] ∧ Below w2.heap.size w2 w3 := by
        rw [hw, hb1, hb2]
        exact boxes1 w2 _ [.slice o L c, .bool s] [.slice o' L' c', .bool s']
      rw [← hb2, ← hb1]
      have k0 := (Row.cell R1.1 0).trans (show _ = some (.slice o L c) from rfl)
      have k1 := (Row.cell R1.1 1).trans (show _ = some (.bool s) from rfl)
      have k2 := (Row.cell R1.2.1 0).trans (show _ = some (.slice o' L' c') from rfl)
      have k3 := (Row.cell R1.2.1 1).trans (show _ = some (.bool s') from rfl)
      have CF := Lib.hid (CC.out _ _ w3 (HN.out.1.next R1.2.2) (HN.out.2.1.next R1.2.2))
      have HB3 := Lib.hid (Below.andThen HN.out.2.2 R1.2.2)
      clear hw R1 hb1 hb2 CC
      go_wp2_with fail
      refine Calls.mono CF.out ?_
      rintro e w4 ⟨rfl, hb⟩
      have HB4 := Lib.hid (Below.andThen HB3.out hb)
      clear hb
      go_wp2_with fail
      go_ret
      exact ⟨rfl, HB4.out⟩

theorem itoa_any (n : Int) (w : World) (hn : -9223372036854775808 ≤ n ∧ n ≤ 9223372036854775807) (ht : TabI w) : Calls Tryz.prog 94 #[.int .i64 n] w fun e w' => e = .returned (.string (In.txt n)) ∧ Below w.heap.size w w' := by
  refine (Tryz.strconv_Itoa n hn.1 hn.2 w ht).mono ?_
  rintro e w' ⟨rfl, k, os, rfl⟩
  exact ⟨rfl, below_grown _ _ _⟩
theorem FromInt_any (n : Int) (w : World) (hn : -9223372036854775808 ≤ n ∧ n ≤ 9223372036854775807) (ht : TabI w) : Calls Tryz.prog 62 #[.int .i64 n] w fun e w' => e = .returned (.string (In.txt n)) ∧ Below w.heap.size w w' := by
  have HC := Lib.hid (itoa_any n w hn ht)
  clear hn ht
  go_enter Tryz.func62, Tryz.ntmps62
  go_wp2_with fail
  refine Calls.mono HC.out ?_
  rintro e w' ⟨rfl, hb⟩
  have HB := Lib.hid hb
  clear hb
  go_wp2_with fail
  go_ret
  exact ⟨rfl, HB.out⟩

theorem txt_size {z : Int} (h : In.Fit z) : (In.txt z).size ≤ 201 := by
  have h1 := (In.dec_len_le (u := z.natAbs) (k := 200) (by decide)).2 h
  rw [Lib.size_eq, In.txt_list]
  unfold In.txtL Lib.itoa
  split
  · rw [List.length_cons]; omega
  · rw [show z.toNat = z.natAbs by omega]; omega
end Go.Proofs.YtlehjmanlccncaaGreatDoor
set_option linter.unusedVariables false
set_option linter.unusedSimpArgs false
namespace Go.Proofs.YtlehjmanlccncaaGreatDoor
open Go.RowKit

theorem divS_fit {a b : ByteArray} {x y : Int} (ha : In.num a = some x) (hb : In.num b = some y) (hy : y ≠ 0) (fx : In.Fit x) : In.divS a b = (In.txt (x / y), In.txt (x % y), 0) := by
  rw [In.divS_some ha hb hy, if_pos (Nat.lt_of_le_of_lt (In.quo_le x y) fx)]
set_option maxRecDepth 100000 in
set_option maxHeartbeats 2000000 in
theorem Div_any (a b : ByteArray) (w : World) (ht : TabI w) : Calls Tryz.prog 50 #[.string a, .string b] w fun e w' => e = .returned (.tuple #[.string (In.divS a b).1, .string (In.divS a b).2.1, .int .i64 (In.divS a b).2.2]) ∧ Below w.heap.size w w' := by
  have bad : (In.num a = none ∨ In.num b = none) → Calls Tryz.prog 50 #[.string a, .string b] w fun e w' => e = .returned (.tuple #[.string ⟨#[]⟩, .string ⟨#[]⟩, .int .i64 30]) ∧ Below w.heap.size w w' := by
    intro h
    have CR := Lib.hid (read_bad a b w (num_bad h))
    clear h ht
    go_enter Tryz.func50, Tryz.ntmps50
    go_wp2_with fail
    refine Calls.mono CR.out ?_
    rintro e w2 ⟨rfl, hb⟩
    have HB := Lib.hid hb
    clear hb
    go_wp2_with fail
    go_ret3
    exact ⟨rfl, (HB.out.alloc HB.out.size _).alloc (by have := HB.out.size; simp; omega) _⟩
  cases ha : In.num a with
  | none => rw [In.divS_left ha]; exact bad (.inl ha)
  | some x =>
    cases hb : In.num b with
    | none => rw [In.divS_right hb]; exact bad (.inr hb)
    | some y =>
      clear bad
      obtain ⟨a1, a2, fx⟩ := num_valid ha
      obtain ⟨b1, b2, fy⟩ := num_valid hb
      have lx := fit_groups fx
      have ly := fit_groups fy
      have CR := Lib.hid (read_ok a b w a1 b1)
      rw [a2, b2] at CR
      have HT := Lib.hid ht
      by_cases hy : y = 0
      · subst hy
        rw [In.divS_zero ha hb]
        clear ha hb a1 a2 b1 b2 fx fy lx ly ht
        go_enter Tryz.func50, Tryz.ntmps50
        go_wp2_with fail
        refine Calls.mono CR.out ?_
        rintro e w2 ⟨u, v, rfl, hu, hv, hb⟩
        have HB := Lib.hid hb
        obtain ⟨o, L, c, s, rfl, _, _, _⟩ := hu.form
        obtain ⟨o', L', c', s', rfl, _, hL, _⟩ := hv.form
        have e0 : L' = 0 := by rw [← hL]; rfl
        subst e0
        clear hu hv hb hL CR
        go_wp2_with fail
        go_ret3
        exact ⟨rfl, (HB.out.alloc HB.out.size _).alloc (by have := HB.out.size; simp; omega) _⟩
      · rw [divS_fit ha hb hy fx]
        have fq : In.Fit (x / y) := Nat.lt_of_le_of_lt (In.quo_le x y) fx
        have fr : In.Fit (x % y) := by
          have h1 := Int.emod_nonneg x hy
          have h2 := Int.emod_lt x hy
          have : (x % y).natAbs < y.natAbs := by omega
          exact Nat.lt_trans this fy
        have lq := fit_groups fq
        have lr := fit_groups fr
        have CO := Lib.hid (fun u v W h h' => overZ_any u v x y W h h' hy (by omega) (by omega))
        have PQ := Lib.hid (fun u W h ht => printZ_any u (x / y) W h (by omega) ht)
        have PR := Lib.hid (fun u W h ht => printZ_any u (x % y) W h (by omega) ht)
        rw [In.fit_pos fq] at PQ
        rw [In.fit_pos fr] at PR
        have HY := Lib.hid (show (In.gs y.natAbs).length ≠ 0 from fun h => hy (by have := In.gs_nil.1 h; omega))
        generalize x / y = q at *
        generalize x % y = r at *
        clear ha hb a1 a2 b1 b2 fx fy lx ly fq fr lq lr hy ht
        go_enter Tryz.func50, Tryz.ntmps50
        go_wp2_with fail
        refine Calls.mono CR.out ?_
        rintro e w2 ⟨u, v, rfl, hu, hv, hb⟩
        have HN := Lib.hid (And.intro hu (And.intro hv hb))
        obtain ⟨o, L, c, s, rfl, _, _, _⟩ := hu.form
        obtain ⟨o', L', c', s', rfl, _, hL', _⟩ := hv.form
        have HL0 : L' ≠ 0 := by rw [← hL']; exact HY.out
        have d0 : ((L' : Int) == 0) = false := by rw [beq_eq_false_iff_ne]; omega
        clear hu hv hb hL' HY CR
        go_upto_region 2 with (fail)
        refine wp_named fun w3 hw => ?_
        obtain ⟨b1, hb1⟩ : ∃ x, x = w2.heap.size := ⟨_, rfl⟩
        obtain ⟨b2, hb2⟩ : ∃ x, x = w2.heap.size + 1 := ⟨_, rfl⟩
        have R1 : Row w3 b1 91 [.slice o L c, .bool s] ∧ Row w3 b2 91 [.slice o' L' c', .bool s'] ∧ Below w2.heap.size w2 w3 := by
          rw [hw, hb1, hb2]
          exact boxes1 w2 _ [.slice o L c, .bool s] [.slice o' L' c', .bool s']
        rw [← hb2, ← hb1]
        have k0 := (Row.cell R1.1 0).trans (show _ = some (.slice o L c) from rfl)
        have k1 := (Row.cell R1.1 1).trans (show _ = some (.bool s) from rfl)
        have k2 := (Row.cell R1.2.1 0).trans (show _ = some (.slice o' L' c') from rfl)
        have k3 := (Row.cell R1.2.1 1).trans (show _ = some (.bool s') from rfl)
        have CF := Lib.hid (CO.out _ _ w3 (HN.out.1.next R1.2.2) (HN.out.2.1.next R1.2.2))
        have HB3 := Lib.hid (Below.andThen HN.out.2.2 R1.2.2)
        clear hw R1 hb1 hb2 CO
        go_wp2_with fail
        refine Calls.mono CF.out ?_
        rintro e w4 ⟨uq, ur, rfl, hq, hr, hb⟩
        have HQ := Lib.hid (And.intro hq (And.intro hr (Below.andThen HB3.out hb)))
        obtain ⟨o3, L3, c3, s3, rfl, _, _, _⟩ := hq.form
        obtain ⟨o4, L4, c4, s4, rfl, _, _, _⟩ := hr.form
        clear hq hr hb CF k0 k1 k2 k3
        go_upto_region 5 with (fail)
        refine wp_named fun w5 hw => ?_
        obtain ⟨b3, hb3⟩ : ∃ x, x = w4.heap.size := ⟨_, rfl⟩
        obtain ⟨b4, hb4⟩ : ∃ x, x = w4.heap.size + 1 := ⟨_, rfl⟩
        have R1 : Row w5 b3 91 [.slice o3 L3 c3, .bool s3] ∧ Row w5 b4 91 [.slice o4 L4 c4, .bool s4] ∧ Below w4.heap.size w4 w5 := by
          rw [hw, hb3, hb4]
          exact boxes1 w4 _ [.slice o3 L3 c3, .bool s3] [.slice o4 L4 c4, .bool s4]
        rw [← hb4, ← hb3]
        have k0 := (Row.cell R1.1 0).trans (show _ = some (.slice o3 L3 c3) from rfl)
        have k1 := (Row.cell R1.1 1).trans (show _ = some (.bool s3) from rfl)
        have hB5 := Below.andThen HQ.out.2.2 R1.2.2
        have CQ := Lib.hid (PQ.out _ w5 (HQ.out.1.next R1.2.2) (TabI.next HT.out hB5))
        have HR5 := Lib.hid (And.intro R1.2.1 (And.intro (HQ.out.2.1.next R1.2.2) hB5))
        clear hw R1 hb3 hb4 PQ hB5
        go_wp2_with fail
        refine Calls.mono CQ.out ?_
        rintro e w6 ⟨rfl, hb⟩
        have hR := HR5.out.1.next hb
        have k2 := (Row.cell hR 0).trans (show _ = some (.slice o4 L4 c4) from rfl)
        have k3 := (Row.cell hR 1).trans (show _ = some (.bool s4) from rfl)
        have hB6 := Below.andThen HR5.out.2.2 hb
        have CQ2 := Lib.hid (PR.out _ w6 (HR5.out.2.1.next hb) (TabI.next HT.out hB6))
        have HB6 := Lib.hid hB6
        clear hb hR hB6 CQ PR k0 k1
        go_wp2_with fail
        refine Calls.mono CQ2.out ?_
        rintro e w7 ⟨rfl, hb⟩
        have HB7 := Lib.hid (Below.andThen HB6.out hb)
        clear hb
        go_wp2_with fail
        go_ret3
        exact ⟨rfl, HB7.out⟩
end Go.Proofs.YtlehjmanlccncaaGreatDoor
