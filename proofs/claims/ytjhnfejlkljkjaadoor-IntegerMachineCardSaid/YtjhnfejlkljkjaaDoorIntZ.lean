/- Integers as strings: what the package exports. -/
import Derived.Test.YtjhnfejlkljkjaaDoorIntX
import Derived.Test.YtjhnfejlkljkjaaDoorIntY
import Derived.Test.YtjhnfejlkljkjaaDoorIntV
import Derived.Test.YtjhnfejlkljkjaaDoorIntW
namespace Go.Proofs.YtjhnfejlkljkjaaDoor
open Go.RowKit

theorem fit_groups {z : Int} (h : In.Fit z) : (In.gs z.natAbs).length ≤ 50 := by
  refine In.gr_len_le (by decide) _ _ (Nat.lt_of_lt_of_le h ?_)
  rw [show (10000 : Nat) = 10 ^ 4 from rfl, ← Nat.pow_mul]
  exact Nat.le_refl _
theorem gs_len_Add (x y : Int) : (In.gs (x + y).natAbs).length ≤ (In.gs x.natAbs).length + (In.gs y.natAbs).length + 1 := by
  have h1 := gs_len_le (Int.natAbs_add_le x y)
  have h2 := In.gs_len_add x.natAbs y.natAbs
  omega
theorem gs_len_Sub (x y : Int) : (In.gs (x - y).natAbs).length ≤ (In.gs x.natAbs).length + (In.gs y.natAbs).length + 1 := by
  have h1 := gs_len_Add x (-y)
  rw [Int.natAbs_neg] at h1
  exact h1
theorem gs_len_Mul (x y : Int) : (In.gs (x * y).natAbs).length ≤ (In.gs x.natAbs).length + (In.gs y.natAbs).length := by
  rw [Int.natAbs_mul]
  exact gs_len_mul _ _
theorem gs_len_Gcd (x y : Int) : (In.gs (In.gcdZ x y).natAbs).length ≤ (In.gs x.natAbs).length + (In.gs y.natAbs).length := by
  show (In.gs (Int.natAbs ((Nat.gcd x.natAbs y.natAbs : Nat) : Int))).length ≤ _
  rw [Int.natAbs_natCast]
  rcases Nat.eq_zero_or_pos x.natAbs with h | h
  · rw [h, Nat.gcd_zero_left]
    omega
  · have h1 := gs_len_le (Nat.gcd_le_left y.natAbs h)
    omega
theorem num_valid {s : ByteArray} {x : Int} (h : In.num s = some x) : In.validL s.data.toList = true ∧ In.valL s.data.toList = x ∧ In.Fit x := by
  have h0 := In.num_some h
  unfold In.num at h
  split at h
  · rename_i hv
    exact ⟨hv, Option.some.inj h, h0.2⟩
  · cases h
theorem num_bad {a b : ByteArray} (h : In.num a = none ∨ In.num b = none) : (In.validL a.data.toList && In.validL b.data.toList) = false := by
  rcases h with h | h
  · rw [In.num_none.1 h, Bool.false_and]
  · rw [In.num_none.1 h, Bool.and_false]
theorem opS_bad {f : Int → Int → Int} {a b : ByteArray} (h : In.num a = none ∨ In.num b = none) : In.opS f a b = (⟨#[]⟩, 30) := by
  rcases h with h | h
  · exact In.opS_left h
  · exact In.opS_right h
set_option maxRecDepth 100000 in
set_option maxHeartbeats 2000000 in
theorem calc_ok_Add (f : Int → Int → Int) (a b : ByteArray) (x y : Int) (w : World) (ht : TabI w) (ha : In.num a = some x) (hb : In.num b = some y) (hl : (In.gs (f x y).natAbs).length ≤ 700)
    (hF : ∀ W u v, NumV W u x → NumV W v y → Calls Tryd.prog 28 #[u, v] W fun e w' => ∃ r, e = .returned r ∧ NumV w' r (f x y) ∧ Below W.heap.size W w') :
    Calls Tryd.prog 27 #[.string a, .string b, .func (.func 28) #[] #[]] w fun e w' => e = .returned (.tuple #[.string (In.fit (f x y)).1, .int .i64 (In.fit (f x y)).2]) ∧ Below w.heap.size w w' := by
  obtain ⟨a1, a2, _⟩ := num_valid ha
  obtain ⟨b1, b2, _⟩ := num_valid hb
  have CR := Lib.hid (read_ok a b w a1 b1)
  rw [a2, b2] at CR
  have HF := Lib.hid hF
  have HT := Lib.hid ht
  have CP := Lib.hid (fun W u h ht => printZ_any u (f x y) W h hl ht)
  generalize In.fit (f x y) = R at *
  obtain ⟨R1, R2⟩ := R
  generalize f x y = z at *
  clear ha hb a1 a2 b1 b2 ht hF hl
  go_enter Tryd.func27, Tryd.ntmps27
  go_wp2_with fail
  refine Calls.mono CR.out ?_
  rintro e w2 ⟨u, v, rfl, hu, hv, hb⟩
  have HN := Lib.hid (And.intro hu (And.intro hv hb))
  obtain ⟨o, L, c, s, rfl, _, _, _⟩ := hu.form
  obtain ⟨o', L', c', s', rfl, _, _, _⟩ := hv.form
  clear hu hv hb CR
  go_upto_region 2 with (fail)
  refine wp_named fun w3 hw => ?_
  obtain ⟨b1, hb1⟩ : ∃ x, x = w2.heap.size := ⟨_, rfl⟩
  obtain ⟨b2, hb2⟩ : ∃ x, x = w2.heap.size + 1 := ⟨_, rfl⟩
  have R1 : Row w3 b1 51 [.slice o L c, .bool s] ∧ Row w3 b2 51 [.slice o' L' c', .bool s'] ∧ Below w2.heap.size w2 w3 := by
    rw [hw, hb1, hb2]
    exact boxes1 w2 _ [.slice o L c, .bool s] [.slice o' L' c', .bool s']
  rw [← hb2, ← hb1]
  have k0 := (Row.cell R1.1 0).trans (show _ = some (.slice o L c) from rfl)
  have k1 := (Row.cell R1.1 1).trans (show _ = some (.bool s) from rfl)
  have k2 := (Row.cell R1.2.1 0).trans (show _ = some (.slice o' L' c') from rfl)
  have k3 := (Row.cell R1.2.1 1).trans (show _ = some (.bool s') from rfl)
  have CF := Lib.hid (HF.out w3 _ _ (HN.out.1.next R1.2.2) (HN.out.2.1.next R1.2.2))
  have HB3 := Lib.hid (Below.andThen HN.out.2.2 R1.2.2)
  clear hw R1 hb1 hb2 HF
  go_wp2_with fail
  refine Calls.mono CF.out ?_
  rintro e w4 ⟨r, rfl, hr, hb⟩
  have CP2 := Lib.hid (CP.out w4 r hr (TabI.next HT.out (Below.andThen HB3.out hb)))
  have HB4 := Lib.hid (Below.andThen HB3.out hb)
  clear hr hb CF CP k0 k1 k2 k3
  go_wp2_with fail
  refine Calls.mono CP2.out ?_
  rintro e w5 ⟨rfl, hb⟩
  have HB5 := Lib.hid (Below.andThen HB4.out hb)
  clear hb
  go_wp2_with fail
  go_ret2
  exact ⟨rfl, HB5.out⟩
set_option maxRecDepth 100000 in
set_option maxHeartbeats 2000000 in
theorem calc_bad_Add (a b : ByteArray) (w : World) (h : In.num a = none ∨ In.num b = none) :
    Calls Tryd.prog 27 #[.string a, .string b, .func (.func 28) #[] #[]] w fun e w' => e = .returned (.tuple #[.string ⟨#[]⟩, .int .i64 30]) ∧ Below w.heap.size w w' := by
  have CR := Lib.hid (read_bad a b w (num_bad h))
  clear h
  go_enter Tryd.func27, Tryd.ntmps27
  go_wp2_with fail
  refine Calls.mono CR.out ?_
  rintro e w2 ⟨rfl, hb⟩
  have HB := Lib.hid hb
  clear hb
  go_wp2_with fail
  go_ret2
  exact ⟨rfl, (HB.out.alloc HB.out.size _).alloc (by have := HB.out.size; simp; omega) _⟩
theorem len_Add {x y : Int} (hx : In.Fit x) (hy : In.Fit y) : (In.gs ((fun x y => x + y) x y).natAbs).length ≤ 700 := by
  have h1 := fit_groups hx
  have h2 := fit_groups hy
  exact Nat.le_trans (gs_len_Add x y) (by omega)
theorem Add_any (a b : ByteArray) (w : World) (ht : TabI w) :
    Calls Tryd.prog 14 #[.string a, .string b] w fun e w' => e = .returned (.tuple #[.string (In.opS (fun x y => x + y) a b).1, .int .i64 (In.opS (fun x y => x + y) a b).2]) ∧ Below w.heap.size w w' := by
  have C : Calls Tryd.prog 27 #[.string a, .string b, .func (.func 28) #[] #[]] w fun e w' => e = .returned (.tuple #[.string (In.opS (fun x y => x + y) a b).1, .int .i64 (In.opS (fun x y => x + y) a b).2]) ∧ Below w.heap.size w w' := by
    cases ha : In.num a with
    | none => rw [opS_bad (.inl ha)]; exact calc_bad_Add a b w (.inl ha)
    | some x =>
      cases hb : In.num b with
      | none => rw [opS_bad (.inr hb)]; exact calc_bad_Add a b w (.inr hb)
      | some y =>
        obtain ⟨_, _, fx⟩ := num_valid ha
        obtain ⟨_, _, fy⟩ := num_valid hb
        have lx := fit_groups fx
        have ly := fit_groups fy
        rw [In.opS_some ha hb]
        exact calc_ok_Add (fun x y => x + y) a b x y w ht ha hb (len_Add fx fy) (fun W u v hu hv => (plusZ_any u v x y W hu hv (by omega) (by omega)))
  have HC := Lib.hid C
  clear C ht
  generalize In.opS (fun x y => x + y) a b = R at *
  obtain ⟨R1, R2⟩ := R
  go_enter Tryd.func14, Tryd.ntmps14
  go_wp2_with fail
  refine Calls.mono HC.out ?_
  rintro e w2 ⟨rfl, hb⟩
  have HB := Lib.hid hb
  clear hb
  go_wp2_with fail
  go_ret2
  exact ⟨rfl, HB.out⟩
set_option maxRecDepth 100000 in
set_option maxHeartbeats 2000000 in
theorem calc_ok_Sub (f : Int → Int → Int) (a b : ByteArray) (x y : Int) (w : World) (ht : TabI w) (ha : In.num a = some x) (hb : In.num b = some y) (hl : (In.gs (f x y).natAbs).length ≤ 700)
    (hF : ∀ W u v, NumV W u x → NumV W v y → Calls Tryd.prog 29 #[u, v] W fun e w' => ∃ r, e = .returned r ∧ NumV w' r (f x y) ∧ Below W.heap.size W w') :
    Calls Tryd.prog 27 #[.string a, .string b, .func (.func 29) #[] #[]] w fun e w' => e = .returned (.tuple #[.string (In.fit (f x y)).1, .int .i64 (In.fit (f x y)).2]) ∧ Below w.heap.size w w' := by
  obtain ⟨a1, a2, _⟩ := num_valid ha
  obtain ⟨b1, b2, _⟩ := num_valid hb
  have CR := Lib.hid (read_ok a b w a1 b1)
  rw [a2, b2] at CR
  have HF := Lib.hid hF
  have HT := Lib.hid ht
  have CP := Lib.hid (fun W u h ht => printZ_any u (f x y) W h hl ht)
  generalize In.fit (f x y) = R at *
  obtain ⟨R1, R2⟩ := R
  generalize f x y = z at *
  clear ha hb a1 a2 b1 b2 ht hF hl
  go_enter Tryd.func27, Tryd.ntmps27
  go_wp2_with fail
  refine Calls.mono CR.out ?_
  rintro e w2 ⟨u, v, rfl, hu, hv, hb⟩
  have HN := Lib.hid (And.intro hu (And.intro hv hb))
  obtain ⟨o, L, c, s, rfl, _, _, _⟩ := hu.form
  obtain ⟨o', L', c', s', rfl, _, _, _⟩ := hv.form
  clear hu hv hb CR
  go_upto_region 2 with (fail)
  refine wp_named fun w3 hw => ?_
  obtain ⟨b1, hb1⟩ : ∃ x, x = w2.heap.size := ⟨_, rfl⟩
  obtain ⟨b2, hb2⟩ : ∃ x, x = w2.heap.size + 1 := ⟨_, rfl⟩
  have R1 : Row w3 b1 51 [.slice o L c, .bool s] ∧ Row w3 b2 51 [.slice o' L' c', .bool s'] ∧ Below w2.heap.size w2 w3 := by
    rw [hw, hb1, hb2]
    exact boxes1 w2 _ [.slice o L c, .bool s] [.slice o' L' c', .bool s']
  rw [← hb2, ← hb1]
  have k0 := (Row.cell R1.1 0).trans (show _ = some (.slice o L c) from rfl)
  have k1 := (Row.cell R1.1 1).trans (show _ = some (.bool s) from rfl)
  have k2 := (Row.cell R1.2.1 0).trans (show _ = some (.slice o' L' c') from rfl)
  have k3 := (Row.cell R1.2.1 1).trans (show _ = some (.bool s') from rfl)
  have CF := Lib.hid (HF.out w3 _ _ (HN.out.1.next R1.2.2) (HN.out.2.1.next R1.2.2))
  have HB3 := Lib.hid (Below.andThen HN.out.2.2 R1.2.2)
  clear hw R1 hb1 hb2 HF
  go_wp2_with fail
  refine Calls.mono CF.out ?_
  rintro e w4 ⟨r, rfl, hr, hb⟩
  have CP2 := Lib.hid (CP.out w4 r hr (TabI.next HT.out (Below.andThen HB3.out hb)))
  have HB4 := Lib.hid (Below.andThen HB3.out hb)
  clear hr hb CF CP k0 k1 k2 k3
  go_wp2_with fail
  refine Calls.mono CP2.out ?_
  rintro e w5 ⟨rfl, hb⟩
  have HB5 := Lib.hid (Below.andThen HB4.out hb)
  clear hb
  go_wp2_with fail
  go_ret2
  exact ⟨rfl, HB5.out⟩
set_option maxRecDepth 100000 in
set_option maxHeartbeats 2000000 in
theorem calc_bad_Sub (a b : ByteArray) (w : World) (h : In.num a = none ∨ In.num b = none) :
    Calls Tryd.prog 27 #[.string a, .string b, .func (.func 29) #[] #[]] w fun e w' => e = .returned (.tuple #[.string ⟨#[]⟩, .int .i64 30]) ∧ Below w.heap.size w w' := by
  have CR := Lib.hid (read_bad a b w (num_bad h))
  clear h
  go_enter Tryd.func27, Tryd.ntmps27
  go_wp2_with fail
  refine Calls.mono CR.out ?_
  rintro e w2 ⟨rfl, hb⟩
  have HB := Lib.hid hb
  clear hb
  go_wp2_with fail
  go_ret2
  exact ⟨rfl, (HB.out.alloc HB.out.size _).alloc (by have := HB.out.size; simp; omega) _⟩
theorem len_Sub {x y : Int} (hx : In.Fit x) (hy : In.Fit y) : (In.gs ((fun x y => x - y) x y).natAbs).length ≤ 700 := by
  have h1 := fit_groups hx
  have h2 := fit_groups hy
  exact Nat.le_trans (gs_len_Sub x y) (by omega)
theorem Sub_any (a b : ByteArray) (w : World) (ht : TabI w) :
    Calls Tryd.prog 15 #[.string a, .string b] w fun e w' => e = .returned (.tuple #[.string (In.opS (fun x y => x - y) a b).1, .int .i64 (In.opS (fun x y => x - y) a b).2]) ∧ Below w.heap.size w w' := by
  have C : Calls Tryd.prog 27 #[.string a, .string b, .func (.func 29) #[] #[]] w fun e w' => e = .returned (.tuple #[.string (In.opS (fun x y => x - y) a b).1, .int .i64 (In.opS (fun x y => x - y) a b).2]) ∧ Below w.heap.size w w' := by
    cases ha : In.num a with
    | none => rw [opS_bad (.inl ha)]; exact calc_bad_Sub a b w (.inl ha)
    | some x =>
      cases hb : In.num b with
      | none => rw [opS_bad (.inr hb)]; exact calc_bad_Sub a b w (.inr hb)
      | some y =>
        obtain ⟨_, _, fx⟩ := num_valid ha
        obtain ⟨_, _, fy⟩ := num_valid hb
        have lx := fit_groups fx
        have ly := fit_groups fy
        rw [In.opS_some ha hb]
        exact calc_ok_Sub (fun x y => x - y) a b x y w ht ha hb (len_Sub fx fy) (fun W u v hu hv => (subZ_any u v x y W hu hv (by omega) (by omega)))
  have HC := Lib.hid C
  clear C ht
  generalize In.opS (fun x y => x - y) a b = R at *
  obtain ⟨R1, R2⟩ := R
  go_enter Tryd.func15, Tryd.ntmps15
  go_wp2_with fail
  refine Calls.mono HC.out ?_
  rintro e w2 ⟨rfl, hb⟩
  have HB := Lib.hid hb
  clear hb
  go_wp2_with fail
  go_ret2
  exact ⟨rfl, HB.out⟩
set_option maxRecDepth 100000 in
set_option maxHeartbeats 2000000 in
theorem calc_ok_Mul (f : Int → Int → Int) (a b : ByteArray) (x y : Int) (w : World) (ht : TabI w) (ha : In.num a = some x) (hb : In.num b = some y) (hl : (In.gs (f x y).natAbs).length ≤ 700)
    (hF : ∀ W u v, NumV W u x → NumV W v y → Calls Tryd.prog 31 #[u, v] W fun e w' => ∃ r, e = .returned r ∧ NumV w' r (f x y) ∧ Below W.heap.size W w') :
    Calls Tryd.prog 27 #[.string a, .string b, .func (.func 31) #[] #[]] w fun e w' => e = .returned (.tuple #[.string (In.fit (f x y)).1, .int .i64 (In.fit (f x y)).2]) ∧ Below w.heap.size w w' := by
  obtain ⟨a1, a2, _⟩ := num_valid ha
  obtain ⟨b1, b2, _⟩ := num_valid hb
  have CR := Lib.hid (read_ok a b w a1 b1)
  rw [a2, b2] at CR
  have HF := Lib.hid hF
  have HT := Lib.hid ht
  have CP := Lib.hid (fun W u h ht => printZ_any u (f x y) W h hl ht)
  generalize In.fit (f x y) = R at *
  obtain ⟨R1, R2⟩ := R
  generalize f x y = z at *
  clear ha hb a1 a2 b1 b2 ht hF hl
  go_enter Tryd.func27, Tryd.ntmps27
  go_wp2_with fail
  refine Calls.mono CR.out ?_
  rintro e w2 ⟨u, v, rfl, hu, hv, hb⟩
  have HN := Lib.hid (And.intro hu (And.intro hv hb))
  obtain ⟨o, L, c, s, rfl, _, _, _⟩ := hu.form
  obtain ⟨o', L', c', s', rfl, _, _, _⟩ := hv.form
  clear hu hv hb CR
  go_upto_region 2 with (fail)
  refine wp_named fun w3 hw => ?_
  obtain ⟨b1, hb1⟩ : ∃ x, x = w2.heap.size := ⟨_, rfl⟩
  obtain ⟨b2, hb2⟩ : ∃ x, x = w2.heap.size + 1 := ⟨_, rfl⟩
  have R1 : Row w3 b1 51 [.slice o L c, .bool s] ∧ Row w3 b2 51 [.slice o' L' c', .bool s'] ∧ Below w2.heap.size w2 w3 := by
    rw [hw, hb1, hb2]
    exact boxes1 w2 _ [.slice o L c, .bool s] [.slice o' L' c', .bool s']
  rw [← hb2, ← hb1]
  have k0 := (Row.cell R1.1 0).trans (show _ = some (.slice o L c) from rfl)
  have k1 := (Row.cell R1.1 1).trans (show _ = some (.bool s) from rfl)
  have k2 := (Row.cell R1.2.1 0).trans (show _ = some (.slice o' L' c') from rfl)
  have k3 := (Row.cell R1.2.1 1).trans (show _ = some (.bool s') from rfl)
  have CF := Lib.hid (HF.out w3 _ _ (HN.out.1.next R1.2.2) (HN.out.2.1.next R1.2.2))
  have HB3 := Lib.hid (Below.andThen HN.out.2.2 R1.2.2)
  clear hw R1 hb1 hb2 HF
  go_wp2_with fail
  refine Calls.mono CF.out ?_
  rintro e w4 ⟨r, rfl, hr, hb⟩
  have CP2 := Lib.hid (CP.out w4 r hr (TabI.next HT.out (Below.andThen HB3.out hb)))
  have HB4 := Lib.hid (Below.andThen HB3.out hb)
  clear hr hb CF CP k0 k1 k2 k3
  go_wp2_with fail
  refine Calls.mono CP2.out ?_
  rintro e w5 ⟨rfl, hb⟩
  have HB5 := Lib.hid (Below.andThen HB4.out hb)
  clear hb
  go_wp2_with fail
  go_ret2
  exact ⟨rfl, HB5.out⟩
set_option maxRecDepth 100000 in
set_option maxHeartbeats 2000000 in
theorem calc_bad_Mul (a b : ByteArray) (w : World) (h : In.num a = none ∨ In.num b = none) :
    Calls Tryd.prog 27 #[.string a, .string b, .func (.func 31) #[] #[]] w fun e w' => e = .returned (.tuple #[.string ⟨#[]⟩, .int .i64 30]) ∧ Below w.heap.size w w' := by
  have CR := Lib.hid (read_bad a b w (num_bad h))
  clear h
  go_enter Tryd.func27, Tryd.ntmps27
  go_wp2_with fail
  refine Calls.mono CR.out ?_
  rintro e w2 ⟨rfl, hb⟩
  have HB := Lib.hid hb
  clear hb
  go_wp2_with fail
  go_ret2
  exact ⟨rfl, (HB.out.alloc HB.out.size _).alloc (by have := HB.out.size; simp; omega) _⟩
theorem len_Mul {x y : Int} (hx : In.Fit x) (hy : In.Fit y) : (In.gs ((fun x y => x * y) x y).natAbs).length ≤ 700 := by
  have h1 := fit_groups hx
  have h2 := fit_groups hy
  exact Nat.le_trans (gs_len_Mul x y) (by omega)
theorem Mul_any (a b : ByteArray) (w : World) (ht : TabI w) :
    Calls Tryd.prog 16 #[.string a, .string b] w fun e w' => e = .returned (.tuple #[.string (In.opS (fun x y => x * y) a b).1, .int .i64 (In.opS (fun x y => x * y) a b).2]) ∧ Below w.heap.size w w' := by
  have C : Calls Tryd.prog 27 #[.string a, .string b, .func (.func 31) #[] #[]] w fun e w' => e = .returned (.tuple #[.string (In.opS (fun x y => x * y) a b).1, .int .i64 (In.opS (fun x y => x * y) a b).2]) ∧ Below w.heap.size w w' := by
    cases ha : In.num a with
    | none => rw [opS_bad (.inl ha)]; exact calc_bad_Mul a b w (.inl ha)
    | some x =>
      cases hb : In.num b with
      | none => rw [opS_bad (.inr hb)]; exact calc_bad_Mul a b w (.inr hb)
      | some y =>
        obtain ⟨_, _, fx⟩ := num_valid ha
        obtain ⟨_, _, fy⟩ := num_valid hb
        have lx := fit_groups fx
        have ly := fit_groups fy
        rw [In.opS_some ha hb]
        exact calc_ok_Mul (fun x y => x * y) a b x y w ht ha hb (len_Mul fx fy) (fun W u v hu hv => (timesZ_any u v x y W hu hv (by omega)))
  have HC := Lib.hid C
  clear C ht
  generalize In.opS (fun x y => x * y) a b = R at *
  obtain ⟨R1, R2⟩ := R
  go_enter Tryd.func16, Tryd.ntmps16
  go_wp2_with fail
  refine Calls.mono HC.out ?_
  rintro e w2 ⟨rfl, hb⟩
  have HB := Lib.hid hb
  clear hb
  go_wp2_with fail
  go_ret2
  exact ⟨rfl, HB.out⟩
set_option maxRecDepth 100000 in
set_option maxHeartbeats 2000000 in
theorem calc_ok_Gcd (f : Int → Int → Int) (a b : ByteArray) (x y : Int) (w : World) (ht : TabI w) (ha : In.num a = some x) (hb : In.num b = some y) (hl : (In.gs (f x y).natAbs).length ≤ 700)
    (hF : ∀ W u v, NumV W u x → NumV W v y → Calls Tryd.prog 39 #[u, v] W fun e w' => ∃ r, e = .returned r ∧ NumV w' r (f x y) ∧ Below W.heap.size W w') :
    Calls Tryd.prog 27 #[.string a, .string b, .func (.func 39) #[] #[]] w fun e w' => e = .returned (.tuple #[.string (In.fit (f x y)).1, .int .i64 (In.fit (f x y)).2]) ∧ Below w.heap.size w w' := by
  obtain ⟨a1, a2, _⟩ := num_valid ha
  obtain ⟨b1, b2, _⟩ := num_valid hb
  have CR := Lib.hid (read_ok a b w a1 b1)
  rw [a2, b2] at CR
  have HF := Lib.hid hF
  have HT := Lib.hid ht
  have CP := Lib.hid (fun W u h ht => printZ_any u (f x y) W h hl ht)
  generalize In.fit (f x y) = R at *
  obtain ⟨R1, R2⟩ := R
  generalize f x y = z at *
  clear ha hb a1 a2 b1 b2 ht hF hl
  go_enter Tryd.func27, Tryd.ntmps27
  go_wp2_with fail
  refine Calls.mono CR.out ?_
  rintro e w2 ⟨u, v, rfl, hu, hv, hb⟩
  have HN := Lib.hid (And.intro hu (And.intro hv hb))
  obtain ⟨o, L, c, s, rfl, _, _, _⟩ := hu.form
  obtain ⟨o', L', c', s', rfl, _, _, _⟩ := hv.form
  clear hu hv hb CR
  go_upto_region 2 with (fail)
  refine wp_named fun w3 hw => ?_
  obtain ⟨b1, hb1⟩ : ∃ x, x = w2.heap.size := ⟨_, rfl⟩
  obtain ⟨b2, hb2⟩ : ∃ x, x = w2.heap.size + 1 := ⟨_, rfl⟩
  have R1 : Row w3 b1 51 [.slice o L c, .bool s] ∧ Row w3 b2 51 [.slice o' L' c', .bool s'] ∧ Below w2.heap.size w2 w3 := by
    rw [hw, hb1, hb2]
    exact boxes1 w2 _ [.slice o L c, .bool s] [.slice o' L' c', .bool s']
  rw [← hb2, ← hb1]
  have k0 := (Row.cell R1.1 0).trans (show _ = some (.slice o L c) from rfl)
  have k1 := (Row.cell R1.1 1).trans (show _ = some (.bool s) from rfl)
  have k2 := (Row.cell R1.2.1 0).trans (show _ = some (.slice o' L' c') from rfl)
  have k3 := (Row.cell R1.2.1 1).trans (show _ = some (.bool s') from rfl)
  have CF := Lib.hid (HF.out w3 _ _ (HN.out.1.next R1.2.2) (HN.out.2.1.next R1.2.2))
  have HB3 := Lib.hid (Below.andThen HN.out.2.2 R1.2.2)
  clear hw R1 hb1 hb2 HF
  go_wp2_with fail
  refine Calls.mono CF.out ?_
  rintro e w4 ⟨r, rfl, hr, hb⟩
  have CP2 := Lib.hid (CP.out w4 r hr (TabI.next HT.out (Below.andThen HB3.out hb)))
  have HB4 := Lib.hid (Below.andThen HB3.out hb)
  clear hr hb CF CP k0 k1 k2 k3
  go_wp2_with fail
  refine Calls.mono CP2.out ?_
  rintro e w5 ⟨rfl, hb⟩
  have HB5 := Lib.hid (Below.andThen HB4.out hb)
  clear hb
  go_wp2_with fail
  go_ret2
  exact ⟨rfl, HB5.out⟩
set_option maxRecDepth 100000 in
set_option maxHeartbeats 2000000 in
theorem calc_bad_Gcd (a b : ByteArray) (w : World) (h : In.num a = none ∨ In.num b = none) :
    Calls Tryd.prog 27 #[.string a, .string b, .func (.func 39) #[] #[]] w fun e w' => e = .returned (.tuple #[.string ⟨#[]⟩, .int .i64 30]) ∧ Below w.heap.size w w' := by
  have CR := Lib.hid (read_bad a b w (num_bad h))
  clear h
  go_enter Tryd.func27, Tryd.ntmps27
  go_wp2_with fail
  refine Calls.mono CR.out ?_
  rintro e w2 ⟨rfl, hb⟩
  have HB := Lib.hid hb
  clear hb
  go_wp2_with fail
  go_ret2
  exact ⟨rfl, (HB.out.alloc HB.out.size _).alloc (by have := HB.out.size; simp; omega) _⟩
theorem len_Gcd {x y : Int} (hx : In.Fit x) (hy : In.Fit y) : (In.gs (In.gcdZ x y).natAbs).length ≤ 700 := by
  have h1 := fit_groups hx
  have h2 := fit_groups hy
  exact Nat.le_trans (gs_len_Gcd x y) (by omega)
theorem Gcd_any (a b : ByteArray) (w : World) (ht : TabI w) :
    Calls Tryd.prog 21 #[.string a, .string b] w fun e w' => e = .returned (.tuple #[.string (In.opS In.gcdZ a b).1, .int .i64 (In.opS In.gcdZ a b).2]) ∧ Below w.heap.size w w' := by
  have C : Calls Tryd.prog 27 #[.string a, .string b, .func (.func 39) #[] #[]] w fun e w' => e = .returned (.tuple #[.string (In.opS In.gcdZ a b).1, .int .i64 (In.opS In.gcdZ a b).2]) ∧ Below w.heap.size w w' := by
    cases ha : In.num a with
    | none => rw [opS_bad (.inl ha)]; exact calc_bad_Gcd a b w (.inl ha)
    | some x =>
      cases hb : In.num b with
      | none => rw [opS_bad (.inr hb)]; exact calc_bad_Gcd a b w (.inr hb)
      | some y =>
        obtain ⟨_, _, fx⟩ := num_valid ha
        obtain ⟨_, _, fy⟩ := num_valid hb
        have lx := fit_groups fx
        have ly := fit_groups fy
        rw [In.opS_some ha hb]
        exact calc_ok_Gcd In.gcdZ a b x y w ht ha hb (len_Gcd fx fy) (fun W u v hu hv => (gcdZ_any u v x y W hu hv (by omega) (by omega)))
  have HC := Lib.hid C
  clear C ht
  generalize In.opS In.gcdZ a b = R at *
  obtain ⟨R1, R2⟩ := R
  go_enter Tryd.func21, Tryd.ntmps21
  go_wp2_with fail
  refine Calls.mono HC.out ?_
  rintro e w2 ⟨rfl, hb⟩
  have HB := Lib.hid hb
  clear hb
  go_wp2_with fail
  go_ret2
  exact ⟨rfl, HB.out⟩
end Go.Proofs.YtjhnfejlkljkjaaDoor
