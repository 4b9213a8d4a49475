/- Steps of a computation: quotient, set and its closure. -/
/- The closure of set: an operation on what two variables hold, its result into a third one. -/
/- chain: steps one behind the other, up to the first one that fails. -/
/- chain over closures of set: variables, and instructions that calculate with them. -/
/- reduce. -/
/- reduce: the walk. -/
import Derived.Test.YtlehjmanlccncaaGreatDoorRatGM
import Derived.Test.YtlehjmanlccncaaGreatDoorIntGI
import Derived.Deep.RegionLaw
import Derived.Test.YtlehjmanlccncaaGreatDoorFloatG
import Derived.Deep.DeepCutAuto
set_option linter.unusedVariables false
set_option linter.unusedSimpArgs false
namespace Go.Proofs.YtlehjmanlccncaaGreatDoor
open Go.RowKit

set_option maxRecDepth 100000 in
set_option maxHeartbeats 1000000 in
theorem quotient_any (a b : ByteArray) (w : World) (T : TabI w) :
    Calls Tryz.prog 89 #[.string a, .string b] w fun e w' => e = .returned (.tuple #[.string (In.divS a b).1, .int .i64 (In.divS a b).2.2]) ∧ Below w.heap.size w w' := by
  have CD := Lib.hid (Div_any a b w T)
  generalize In.divS a b = R at *
  obtain ⟨R1, R2, R3⟩ := R
  clear T
  go_enter Tryz.func89, Tryz.ntmps89
  go_wp2_with fail
  with_reducible refine Calls.mono CD.out ?_
  rintro e w2 ⟨rfl, hb⟩
  have HB := Lib.hid hb
  clear hb
  go_wp2_with fail
  go_ret2
  exact ⟨rfl, HB.out⟩
/-- a variable that holds a text -/
abbrev Box (w : World) (b : Nat) (s : ByteArray) : Prop := Row w b 9 [.string s]
abbrev ptrV (b : Nat) : Value := .pointer (some ⟨b, 0, none⟩)
/-- a place that holds a text -/
abbrev ptrA (p : Nat × Nat) : Value := .pointer (some ⟨p.1, p.2, none⟩)
structure Var (w : World) (p : Nat × Nat) (s : ByteArray) : Prop where
  cell : w.cell? ⟨p.1, p.2, none⟩ = some (.string s)
  fr : w.frozen? ⟨p.1, p.2, none⟩ = false
  lt : p.1 < w.heap.size
theorem Var.next {w w' : World} {p : Nat × Nat} {s : ByteArray} (h : Var w p s) (hb : Below w.heap.size w w') : Var w' p s :=
  ⟨(hb.cell (p := ⟨p.1, p.2, none⟩) h.lt).trans h.cell, (hb.frozen (p := ⟨p.1, p.2, none⟩) h.lt).trans h.fr, Nat.lt_of_lt_of_le h.lt hb.size⟩
theorem Var.of {w : World} {b j : Nat} {t : TypeId} {C : List Value} {s : ByteArray} (h : Row w b t C) (hj : C[j]? = some (.string s)) : Var w (b, j) s := ⟨(h.cell j).trans hj, h.frozen j, h.lt⟩
theorem Var.set {w : World} {p : Nat × Nat} {s : ByteArray} (h : Var w p s) (v : ByteArray) : Var (w.setCell ⟨p.1, p.2, none⟩ (.string v)) p v :=
  ⟨World.cell?_setCell_same _ _ _ h.cell, by rw [World.frozen?_setCell]; exact h.fr, by simpa using h.lt⟩
theorem Var.other {w : World} {p q : Nat × Nat} {s : ByteArray} (h : Var w p s) (hne : q ≠ p) (v : Value) : Var (w.setCell ⟨q.1, q.2, none⟩ v) p s :=
  ⟨(World.cell?_setCell_other _ _ _ _ (fun e => hne (by
    have h1 : q.1 = p.1 := congrArg Addr.block e
    have h2 : q.2 = p.2 := congrArg Addr.off e
    exact Prod.ext h1 h2))).trans h.cell, by rw [World.frozen?_setCell]; exact h.fr, by simpa using h.lt⟩
/-- a step: the boxes that the closure of set has -/
structure Step (w : World) (op : FuncId) (n : Nat) (pt pa pb : Nat × Nat) : Prop where
  fop : Row w (n + 1) 110 [.func (.func op) #[] #[]]
  fto : Row w n 78 [ptrA pt]
  fa : Row w (n + 2) 78 [ptrA pa]
  fb : Row w (n + 3) 78 [ptrA pb]
abbrev capsV (n : Nat) : Array Value := #[ptrV (n + 1), ptrV (n + 2), ptrV (n + 3), ptrV n]
abbrev stepV (n : Nat) : Value := .func (.func 97) #[] (capsV n)
theorem Step.next {w w' : World} {op : FuncId} {n : Nat} {pt pa pb : Nat × Nat} (h : Step w op n pt pa pb) (hb : Below w.heap.size w w') : Step w' op n pt pa pb := ⟨h.fop.next hb, h.fto.next hb, h.fa.next hb, h.fb.next hb⟩
theorem Step.other {w : World} {op : FuncId} {n c : Nat} {pt pa pb : Nat × Nat} (h : Step w op n pt pa pb) (h1 : c < n ∨ n + 3 < c) (o : Nat) (v : Value) : Step (w.setCell ⟨c, o, none⟩ v) op n pt pa pb :=
  ⟨h.fop.other (show n + 1 ≠ c by omega) _ _, h.fto.other (show n ≠ c by omega) _ _, h.fa.other (show n + 2 ≠ c by omega) _ _, h.fb.other (show n + 3 ≠ c by omega) _ _⟩
theorem Step.lt {w : World} {op : FuncId} {n : Nat} {pt pa pb : Nat × Nat} (h : Step w op n pt pa pb) : n + 3 < w.heap.size := h.fb.lt
set_option maxRecDepth 100000 in
set_option maxHeartbeats 1000000 in
theorem set_any_Gcd (pt pa pb : Nat × Nat) (w : World) :
    Calls Tryz.prog 67 #[ptrA pt, .func (.func 61) #[] #[], ptrA pa, ptrA pb] w fun e w' => e = .returned (stepV w.heap.size) ∧ Step w' 61 w.heap.size pt pa pb ∧ Below w.heap.size w w' := by
  go_enter Tryz.func67, Tryz.ntmps67
  go_wp2_with fail
  go_ret
  refine ⟨rfl, ⟨?_, ?_, ?_, ?_⟩, ((((Below.refl _ _).alloc (Nat.le_refl _) _).alloc (by simp) _).alloc (by simp; omega) _).alloc (by simp; omega) _⟩
  · have h := ((Row.new (w.alloc (.cells #[ptrA pt] 78)) 110 [.func (.func 61) #[] #[]]).alloc (.cells #[ptrA pa] 78)).alloc (.cells #[ptrA pb] 78)
    rw [World.size_alloc] at h
    exact h
  · exact (((Row.new w 78 [ptrA pt]).alloc _).alloc _).alloc _
  · have h := (Row.new ((w.alloc (.cells #[ptrA pt] 78)).alloc (.cells #[.func (.func 61) #[] #[]] 110)) 78 [ptrA pa]).alloc (.cells #[ptrA pb] 78)
    rw [World.size_alloc, World.size_alloc] at h
    exact h
  · have h := Row.new (((w.alloc (.cells #[ptrA pt] 78)).alloc (.cells #[.func (.func 61) #[] #[]] 110)).alloc (.cells #[ptrA pa] 78)) 78 [ptrA pb]
    rw [World.size_alloc, World.size_alloc, World.size_alloc] at h
    exact h
set_option maxRecDepth 100000 in
set_option maxHeartbeats 1000000 in
theorem set_any_quo (pt pa pb : Nat × Nat) (w : World) :
    Calls Tryz.prog 67 #[ptrA pt, .func (.func 89) #[] #[], ptrA pa, ptrA pb] w fun e w' => e = .returned (stepV w.heap.size) ∧ Step w' 89 w.heap.size pt pa pb ∧ Below w.heap.size w w' := by
  go_enter Tryz.func67, Tryz.ntmps67
  go_wp2_with fail
  go_ret
  refine ⟨rfl, ⟨?_, ?_, ?_, ?_⟩, ((((Below.refl _ _).alloc (Nat.le_refl _) _).alloc (by simp) _).alloc (by simp; omega) _).alloc (by simp; omega) _⟩
  · have h := ((Row.new (w.alloc (.cells #[ptrA pt] 78)) 110 [.func (.func 89) #[] #[]]).alloc (.cells #[ptrA pa] 78)).alloc (.cells #[ptrA pb] 78)
    rw [World.size_alloc] at h
    exact h
  · exact (((Row.new w 78 [ptrA pt]).alloc _).alloc _).alloc _
  · have h := (Row.new ((w.alloc (.cells #[ptrA pt] 78)).alloc (.cells #[.func (.func 89) #[] #[]] 110)) 78 [ptrA pa]).alloc (.cells #[ptrA pb] 78)
    rw [World.size_alloc, World.size_alloc] at h
    exact h
  · have h := Row.new (((w.alloc (.cells #[ptrA pt] 78)).alloc (.cells #[.func (.func 89) #[] #[]] 110)).alloc (.cells #[ptrA pa] 78)) 78 [ptrA pb]
    rw [World.size_alloc, World.size_alloc, World.size_alloc] at h
    exact h
set_option maxRecDepth 100000 in
set_option maxHeartbeats 1000000 in
theorem set_any_Sub (pt pa pb : Nat × Nat) (w : World) :
    Calls Tryz.prog 67 #[ptrA pt, .func (.func 69) #[] #[], ptrA pa, ptrA pb] w fun e w' => e = .returned (stepV w.heap.size) ∧ Step w' 69 w.heap.size pt pa pb ∧ Below w.heap.size w w' := by
  go_enter Tryz.func67, Tryz.ntmps67
  go_wp2_with fail
  go_ret
  refine ⟨rfl, ⟨?_, ?_, ?_, ?_⟩, ((((Below.refl _ _).alloc (Nat.le_refl _) _).alloc (by simp) _).alloc (by simp; omega) _).alloc (by simp; omega) _⟩
  · have h := ((Row.new (w.alloc (.cells #[ptrA pt] 78)) 110 [.func (.func 69) #[] #[]]).alloc (.cells #[ptrA pa] 78)).alloc (.cells #[ptrA pb] 78)
    rw [World.size_alloc] at h
    exact h
  · exact (((Row.new w 78 [ptrA pt]).alloc _).alloc _).alloc _
  · have h := (Row.new ((w.alloc (.cells #[ptrA pt] 78)).alloc (.cells #[.func (.func 69) #[] #[]] 110)) 78 [ptrA pa]).alloc (.cells #[ptrA pb] 78)
    rw [World.size_alloc, World.size_alloc] at h
    exact h
  · have h := Row.new (((w.alloc (.cells #[ptrA pt] 78)).alloc (.cells #[.func (.func 69) #[] #[]] 110)).alloc (.cells #[ptrA pa] 78)) 78 [ptrA pb]
    rw [World.size_alloc, World.size_alloc, World.size_alloc] at h
    exact h
set_option maxRecDepth 100000 in
set_option maxHeartbeats 1000000 in
theorem set_any_Mul (pt pa pb : Nat × Nat) (w : World) :
    Calls Tryz.prog 67 #[ptrA pt, .func (.func 68) #[] #[], ptrA pa, ptrA pb] w fun e w' => e = .returned (stepV w.heap.size) ∧ Step w' 68 w.heap.size pt pa pb ∧ Below w.heap.size w w' := by
  go_enter Tryz.func67, Tryz.ntmps67
  go_wp2_with fail
  go_ret
  refine ⟨rfl, ⟨?_, ?_, ?_, ?_⟩, ((((Below.refl _ _).alloc (Nat.le_refl _) _).alloc (by simp) _).alloc (by simp; omega) _).alloc (by simp; omega) _⟩
  · have h := ((Row.new (w.alloc (.cells #[ptrA pt] 78)) 110 [.func (.func 68) #[] #[]]).alloc (.cells #[ptrA pa] 78)).alloc (.cells #[ptrA pb] 78)
    rw [World.size_alloc] at h
    exact h
  · exact (((Row.new w 78 [ptrA pt]).alloc _).alloc _).alloc _
  · have h := (Row.new ((w.alloc (.cells #[ptrA pt] 78)).alloc (.cells #[.func (.func 68) #[] #[]] 110)) 78 [ptrA pa]).alloc (.cells #[ptrA pb] 78)
    rw [World.size_alloc, World.size_alloc] at h
    exact h
  · have h := Row.new (((w.alloc (.cells #[ptrA pt] 78)).alloc (.cells #[.func (.func 68) #[] #[]] 110)).alloc (.cells #[ptrA pa] 78)) 78 [ptrA pb]
    rw [World.size_alloc, World.size_alloc, World.size_alloc] at h
    exact h
set_option maxRecDepth 100000 in
set_option maxHeartbeats 1000000 in
theorem set_any_Add (pt pa pb : Nat × Nat) (w : World) :
    Calls Tryz.prog 67 #[ptrA pt, .func (.func 65) #[] #[], ptrA pa, ptrA pb] w fun e w' => e = .returned (stepV w.heap.size) ∧ Step w' 65 w.heap.size pt pa pb ∧ Below w.heap.size w w' := by
  go_enter Tryz.func67, Tryz.ntmps67
  go_wp2_with fail
  go_ret
  refine ⟨rfl, ⟨?_, ?_, ?_, ?_⟩, ((((Below.refl _ _).alloc (Nat.le_refl _) _).alloc (by simp) _).alloc (by simp; omega) _).alloc (by simp; omega) _⟩
  · have h := ((Row.new (w.alloc (.cells #[ptrA pt] 78)) 110 [.func (.func 65) #[] #[]]).alloc (.cells #[ptrA pa] 78)).alloc (.cells #[ptrA pb] 78)
    rw [World.size_alloc] at h
    exact h
  · exact (((Row.new w 78 [ptrA pt]).alloc _).alloc _).alloc _
  · have h := (Row.new ((w.alloc (.cells #[ptrA pt] 78)).alloc (.cells #[.func (.func 65) #[] #[]] 110)) 78 [ptrA pa]).alloc (.cells #[ptrA pb] 78)
    rw [World.size_alloc, World.size_alloc] at h
    exact h
  · have h := Row.new (((w.alloc (.cells #[ptrA pt] 78)).alloc (.cells #[.func (.func 65) #[] #[]] 110)).alloc (.cells #[ptrA pa] 78)) 78 [ptrA pb]
    rw [World.size_alloc, World.size_alloc, World.size_alloc] at h
    exact h
end Go.Proofs.YtlehjmanlccncaaGreatDoor
set_option linter.unusedVariables false
set_option linter.unusedSimpArgs false
namespace Go.Proofs.YtlehjmanlccncaaGreatDoor
open Go.RowKit

abbrev quoS (s t : ByteArray) : ByteArray × Int := ((In.divS s t).1, (In.divS s t).2.2)
set_option maxRecDepth 100000 in
set_option maxHeartbeats 4000000 in
theorem set1_Gcd (n : Nat) (pt pa pb : Nat × Nat) (sa sb st : ByteArray) (w : World) (T : TabI w) (hS : Step w 61 n pt pa pb) (hA : Var w pa sa) (hB : Var w pb sb) (hT : Var w pt st) :
    Calls Tryz.prog 97 (capsV n) w fun e w' => e = .returned (.int .i64 (In.opS In.gcdZ sa sb).2) ∧ ∃ wm, Below w.heap.size w wm ∧ w' = wm.setCell ⟨pt.1, pt.2, none⟩ (.string (In.opS In.gcdZ sa sb).1) := by
  have HX := Lib.hid (And.intro hS (And.intro hA (And.intro hB hT)))
  obtain ⟨R1, hR1⟩ : ∃ r, r = (In.opS In.gcdZ sa sb).1 := ⟨_, rfl⟩
  obtain ⟨R2, hR2⟩ : ∃ r, r = (In.opS In.gcdZ sa sb).2 := ⟨_, rfl⟩
  have CF1 : ∀ k : Kin w, Calls Tryz.prog 61 #[.string sa, .string sb] k.it fun e w' => e = .returned (.tuple #[.string R1, .int .i64 R2]) ∧ Below k.it.heap.size k.it w' := fun k => by rw [hR1, hR2]; exact Gcd_any sa sb k.it (T.next k.below)
  have D0 := Lib.hid CF1
  rw [← hR1, ← hR2]
  have k0 : w.cell? ⟨n + 1, 0, none⟩ = some (.func (.func 61) #[] #[]) := (Row.cell hS.fop 0).trans rfl
  have k1 : w.cell? ⟨n, 0, none⟩ = some (ptrA pt) := (Row.cell hS.fto 0).trans rfl
  have k2 : w.cell? ⟨n + 2, 0, none⟩ = some (ptrA pa) := (Row.cell hS.fa 0).trans rfl
  have k3 : w.cell? ⟨n + 3, 0, none⟩ = some (ptrA pb) := (Row.cell hS.fb 0).trans rfl
  have k4 : w.cell? ⟨pa.1, pa.2, none⟩ = some (.string sa) := hA.cell
  have k5 : w.cell? ⟨pb.1, pb.2, none⟩ = some (.string sb) := hB.cell
  have l0 : n + 3 < w.heap.size := hS.lt
  have q0 : n < w.heap.size := by omega
  have q1 : n + 1 < w.heap.size := by omega
  have q2 : n + 2 < w.heap.size := by omega
  have l1 := hA.lt
  have l2 := hB.lt
  clear T hS hA hB hT hR1 hR2 CF1
  go_enter Tryz.func97, Tryz.ntmps97
  go_upto_region 1 with (fail)
  refine wp_region_late_tail 11 [13] 13 (by kernel_rfl) (by kernel_rfl) (fun dst _ _ _ _ h => by cases dst <;> exact h) (by kernel_rfl) w.heap.size 0 (by simp) (fun hk => ?_)
  simp only [List.take_succ_cons, List.take_zero, List.drop_succ_cons, List.drop_zero]
  repeat (go_big_quiet_step (first | (go_at_call 61; with_reducible exact Calls.kin (D0.out _))))
  refine wpQuiet_nil ?_
  clear hk
  intro W2 hb
  have n6 := (HX.out.2.2.2.next hb).cell
  have n7 := (HX.out.2.2.2.next hb).fr
  have HA := Lib.hid hb
  clear hb
  go_wp2_with fail
  go_ret
  exact ⟨rfl, _, HA.out, rfl⟩
set_option maxRecDepth 100000 in
set_option maxHeartbeats 4000000 in
theorem set1_quo (n : Nat) (pt pa pb : Nat × Nat) (sa sb st : ByteArray) (w : World) (T : TabI w) (hS : Step w 89 n pt pa pb) (hA : Var w pa sa) (hB : Var w pb sb) (hT : Var w pt st) :
    Calls Tryz.prog 97 (capsV n) w fun e w' => e = .returned (.int .i64 (quoS sa sb).2) ∧ ∃ wm, Below w.heap.size w wm ∧ w' = wm.setCell ⟨pt.1, pt.2, none⟩ (.string (quoS sa sb).1) := by
  have HX := Lib.hid (And.intro hS (And.intro hA (And.intro hB hT)))
  obtain ⟨R1, hR1⟩ : ∃ r, r = (quoS sa sb).1 := ⟨_, rfl⟩
  obtain ⟨R2, hR2⟩ : ∃ r, r = (quoS sa sb).2 := ⟨_, rfl⟩
  have CF1 : ∀ k : Kin w, Calls Tryz.prog 89 #[.string sa, .string sb] k.it fun e w' => e = .returned (.tuple #[.string R1, .int .i64 R2]) ∧ Below k.it.heap.size k.it w' := fun k => by rw [hR1, hR2]; exact quotient_any sa sb k.it (T.next k.below)
  have D0 := Lib.hid CF1
  rw [← hR1, ← hR2]
  have k0 : w.cell? ⟨n + 1, 0, none⟩ = some (.func (.func 89) #[] #[]) := (Row.cell hS.fop 0).trans rfl
  have k1 : w.cell? ⟨n, 0, none⟩ = some (ptrA pt) := (Row.cell hS.fto 0).trans rfl
  have k2 : w.cell? ⟨n + 2, 0, none⟩ = some (ptrA pa) := (Row.cell hS.fa 0).trans rfl
  have k3 : w.cell? ⟨n + 3, 0, none⟩ = some (ptrA pb) := (Row.cell hS.fb 0).trans rfl
  have k4 : w.cell? ⟨pa.1, pa.2, none⟩ = some (.string sa) := hA.cell
  have k5 : w.cell? ⟨pb.1, pb.2, none⟩ = some (.string sb) := hB.cell
  have l0 : n + 3 < w.heap.size := hS.lt
  have q0 : n < w.heap.size := by omega
  have q1 : n + 1 < w.heap.size := by omega
  have q2 : n + 2 < w.heap.size := by omega
  have l1 := hA.lt
  have l2 := hB.lt
  clear T hS hA hB hT hR1 hR2 CF1
  go_enter Tryz.func97, Tryz.ntmps97
  go_upto_region 1 with (fail)
  refine wp_region_late_tail 11 [13] 13 (by kernel_rfl) (by kernel_rfl) (fun dst _ _ _ _ h => by cases dst <;> exact h) (by kernel_rfl) w.heap.size 0 (by simp) (fun hk => ?_)
  simp only [List.take_succ_cons, List.take_zero, List.drop_succ_cons, List.drop_zero]
  repeat (go_big_quiet_step (first | (go_at_call 89; with_reducible exact Calls.kin (D0.out _))))
  refine wpQuiet_nil ?_
  clear hk
  intro W2 hb
  have n6 := (HX.out.2.2.2.next hb).cell
  have n7 := (HX.out.2.2.2.next hb).fr
  have HA := Lib.hid hb
  clear hb
  go_wp2_with fail
  go_ret
  exact ⟨rfl, _, HA.out, rfl⟩
set_option maxRecDepth 100000 in
set_option maxHeartbeats 4000000 in
theorem set1_Sub (n : Nat) (pt pa pb : Nat × Nat) (sa sb st : ByteArray) (w : World) (T : TabI w) (hS : Step w 69 n pt pa pb) (hA : Var w pa sa) (hB : Var w pb sb) (hT : Var w pt st) :
    Calls Tryz.prog 97 (capsV n) w fun e w' => e = .returned (.int .i64 (In.opS (fun x y => x - y) sa sb).2) ∧ ∃ wm, Below w.heap.size w wm ∧ w' = wm.setCell ⟨pt.1, pt.2, none⟩ (.string (In.opS (fun x y => x - y) sa sb).1) := by
  have HX := Lib.hid (And.intro hS (And.intro hA (And.intro hB hT)))
  obtain ⟨R1, hR1⟩ : ∃ r, r = (In.opS (fun x y => x - y) sa sb).1 := ⟨_, rfl⟩
  obtain ⟨R2, hR2⟩ : ∃ r, r = (In.opS (fun x y => x - y) sa sb).2 := ⟨_, rfl⟩
  have CF1 : ∀ k : Kin w, Calls Tryz.prog 69 #[.string sa, .string sb] k.it fun e w' => e = .returned (.tuple #[.string R1, .int .i64 R2]) ∧ Below k.it.heap.size k.it w' := fun k => by rw [hR1, hR2]; exact Sub_any sa sb k.it (T.next k.below)
  have D0 := Lib.hid CF1
  rw [← hR1, ← hR2]
  have k0 : w.cell? ⟨n + 1, 0, none⟩ = some (.func (.func 69) #[] #[]) := (Row.cell hS.fop 0).trans rfl
  have k1 : w.cell? ⟨n, 0, none⟩ = some (ptrA pt) := (Row.cell hS.fto 0).trans rfl
  have k2 : w.cell? ⟨n + 2, 0, none⟩ = some (ptrA pa) := (Row.cell hS.fa 0).trans rfl
  have k3 : w.cell? ⟨n + 3, 0, none⟩ = some (ptrA pb) := (Row.cell hS.fb 0).trans rfl
  have k4 : w.cell? ⟨pa.1, pa.2, none⟩ = some (.string sa) := hA.cell
  have k5 : w.cell? ⟨pb.1, pb.2, none⟩ = some (.string sb) := hB.cell
  have l0 : n + 3 < w.heap.size := hS.lt
  have q0 : n < w.heap.size := by omega
  have q1 : n + 1 < w.heap.size := by omega
  have q2 : n + 2 < w.heap.size := by omega
  have l1 := hA.lt
  have l2 := hB.lt
  clear T hS hA hB hT hR1 hR2 CF1
  go_enter Tryz.func97, Tryz.ntmps97
  go_upto_region 1 with (fail)
  refine wp_region_late_tail 11 [13] 13 (by kernel_rfl) (by kernel_rfl) (fun dst _ _ _ _ h => by cases dst <;> exact h) (by kernel_rfl) w.heap.size 0 (by simp) (fun hk => ?_)
  simp only [List.take_succ_cons, List.take_zero, List.drop_succ_cons, List.drop_zero]
  repeat (go_big_quiet_step (first | (go_at_call 69; with_reducible exact Calls.kin (D0.out _))))
  refine wpQuiet_nil ?_
  clear hk
  intro W2 hb
  have n6 := (HX.out.2.2.2.next hb).cell
  have n7 := (HX.out.2.2.2.next hb).fr
  have HA := Lib.hid hb
  clear hb
  go_wp2_with fail
  go_ret
  exact ⟨rfl, _, HA.out, rfl⟩
set_option maxRecDepth 100000 in
set_option maxHeartbeats 4000000 in
theorem set1_Mul (n : Nat) (pt pa pb : Nat × Nat) (sa sb st : ByteArray) (w : World) (T : TabI w) (hS : Step w 68 n pt pa pb) (hA : Var w pa sa) (hB : Var w pb sb) (hT : Var w pt st) :
    Calls Tryz.prog 97 (capsV n) w fun e w' => e = .returned (.int .i64 (In.opS (fun x y => x * y) sa sb).2) ∧ ∃ wm, Below w.heap.size w wm ∧ w' = wm.setCell ⟨pt.1, pt.2, none⟩ (.string (In.opS (fun x y => x * y) sa sb).1) := by
  have HX := Lib.hid (And.intro hS (And.intro hA (And.intro hB hT)))
  obtain ⟨R1, hR1⟩ : ∃ r, r = (In.opS (fun x y => x * y) sa sb).1 := ⟨_, rfl⟩
  obtain ⟨R2, hR2⟩ : ∃ r, r = (In.opS (fun x y => x * y) sa sb).2 := ⟨_, rfl⟩
  have CF1 : ∀ k : Kin w, Calls Tryz.prog 68 #[.string sa, .string sb] k.it fun e w' => e = .returned (.tuple #[.string R1, .int .i64 R2]) ∧ Below k.it.heap.size k.it w' := fun k => by rw [hR1, hR2]; exact Mul_any sa sb k.it (T.next k.below)
  have D0 := Lib.hid CF1
  rw [← hR1, ← hR2]
  have k0 : w.cell? ⟨n + 1, 0, none⟩ = some (.func (.func 68) #[] #[]) := (Row.cell hS.fop 0).trans rfl
  have k1 : w.cell? ⟨n, 0, none⟩ = some (ptrA pt) := (Row.cell hS.fto 0).trans rfl
  have k2 : w.cell? ⟨n + 2, 0, none⟩ = some (ptrA pa) := (Row.cell hS.fa 0).trans rfl
  have k3 : w.cell? ⟨n + 3, 0, none⟩ = some (ptrA pb) := (Row.cell hS.fb 0).trans rfl
  have k4 : w.cell? ⟨pa.1, pa.2, none⟩ = some (.string sa) := hA.cell
  have k5 : w.cell? ⟨pb.1, pb.2, none⟩ = some (.string sb) := hB.cell
  have l0 : n + 3 < w.heap.size := hS.lt
  have q0 : n < w.heap.size := by omega
  have q1 : n + 1 < w.heap.size := by omega
  have q2 : n + 2 < w.heap.size := by omega
  have l1 := hA.lt
  have l2 := hB.lt
  clear T hS hA hB hT hR1 hR2 CF1
  go_enter Tryz.func97, Tryz.ntmps97
  go_upto_region 1 with (fail)
  refine wp_region_late_tail 11 [13] 13 (by kernel_rfl) (by kernel_rfl) (fun dst _ _ _ _ h => by cases dst <;> exact h) (by kernel_rfl) w.heap.size 0 (by simp) (fun hk => ?_)
  simp only [List.take_succ_cons, List.take_zero, List.drop_succ_cons, List.drop_zero]
  repeat (go_big_quiet_step (first | (go_at_call 68; with_reducible exact Calls.kin (D0.out _))))
  refine wpQuiet_nil ?_
  clear hk
  intro W2 hb
  have n6 := (HX.out.2.2.2.next hb).cell
  have n7 := (HX.out.2.2.2.next hb).fr
  have HA := Lib.hid hb
  clear hb
  go_wp2_with fail
  go_ret
  exact ⟨rfl, _, HA.out, rfl⟩
set_option maxRecDepth 100000 in
set_option maxHeartbeats 4000000 in
theorem set1_Add (n : Nat) (pt pa pb : Nat × Nat) (sa sb st : ByteArray) (w : World) (T : TabI w) (hS : Step w 65 n pt pa pb) (hA : Var w pa sa) (hB : Var w pb sb) (hT : Var w pt st) :
    Calls Tryz.prog 97 (capsV n) w fun e w' => e = .returned (.int .i64 (In.opS (fun x y => x + y) sa sb).2) ∧ ∃ wm, Below w.heap.size w wm ∧ w' = wm.setCell ⟨pt.1, pt.2, none⟩ (.string (In.opS (fun x y => x + y) sa sb).1) := by
  have HX := Lib.hid (And.intro hS (And.intro hA (And.intro hB hT)))
  obtain ⟨R1, hR1⟩ : ∃ r, r = (In.opS (fun x y => x + y) sa sb).1 := ⟨_, rfl⟩
  obtain ⟨R2, hR2⟩ : ∃ r, r = (In.opS (fun x y => x + y) sa sb).2 := ⟨_, rfl⟩
  have CF1 : ∀ k : Kin w, Calls Tryz.prog 65 #[.string sa, .string sb] k.it fun e w' => e = .returned (.tuple #[.string R1, .int .i64 R2]) ∧ Below k.it.heap.size k.it w' := fun k => by rw [hR1, hR2]; exact Add_any sa sb k.it (T.next k.below)
  have D0 := Lib.hid CF1
  rw [← hR1, ← hR2]
  have k0 : w.cell? ⟨n + 1, 0, none⟩ = some (.func (.func 65) #[] #[]) := (Row.cell hS.fop 0).trans rfl
  have k1 : w.cell? ⟨n, 0, none⟩ = some (ptrA pt) := (Row.cell hS.fto 0).trans rfl
  have k2 : w.cell? ⟨n + 2, 0, none⟩ = some (ptrA pa) := (Row.cell hS.fa 0).trans rfl
  have k3 : w.cell? ⟨n + 3, 0, none⟩ = some (ptrA pb) := (Row.cell hS.fb 0).trans rfl
  have k4 : w.cell? ⟨pa.1, pa.2, none⟩ = some (.string sa) := hA.cell
  have k5 : w.cell? ⟨pb.1, pb.2, none⟩ = some (.string sb) := hB.cell
  have l0 : n + 3 < w.heap.size := hS.lt
  have q0 : n < w.heap.size := by omega
  have q1 : n + 1 < w.heap.size := by omega
  have q2 : n + 2 < w.heap.size := by omega
  have l1 := hA.lt
  have l2 := hB.lt
  clear T hS hA hB hT hR1 hR2 CF1
  go_enter Tryz.func97, Tryz.ntmps97
  go_upto_region 1 with (fail)
  refine wp_region_late_tail 11 [13] 13 (by kernel_rfl) (by kernel_rfl) (fun dst _ _ _ _ h => by cases dst <;> exact h) (by kernel_rfl) w.heap.size 0 (by simp) (fun hk => ?_)
  simp only [List.take_succ_cons, List.take_zero, List.drop_succ_cons, List.drop_zero]
  repeat (go_big_quiet_step (first | (go_at_call 65; with_reducible exact Calls.kin (D0.out _))))
  refine wpQuiet_nil ?_
  clear hk
  intro W2 hb
  have n6 := (HX.out.2.2.2.next hb).cell
  have n7 := (HX.out.2.2.2.next hb).fr
  have HA := Lib.hid hb
  clear hb
  go_wp2_with fail
  go_ret
  exact ⟨rfl, _, HA.out, rfl⟩
end Go.Proofs.YtlehjmanlccncaaGreatDoor
set_option linter.unusedVariables false
set_option linter.unusedSimpArgs false
namespace Go.Proofs.YtlehjmanlccncaaGreatDoor
open Go.RowKit

/-- what a step may be -/
def isStep (f : FuncId) : Prop := f = 97 ∨ f = 84 ∨ f = 85
set_option maxRecDepth 100000 in
set_option maxHeartbeats 2000000 in
theorem chain_any (n b off c : Nat) (R : Nat → World → Prop) (Q : World → Prop) (w : World) (hn : n ≤ 10) (hc : n ≤ c) (hR : R 0 w)
    (hs : ∀ (i : Nat) (W : World), i < n → R i W → ∃ f caps, W.cell? ⟨b, off + i, none⟩ = some (.func (.func f) #[] caps) ∧ b < W.heap.size ∧ isStep f ∧
      Calls Tryz.prog f caps W fun e w' => (e = .returned (.int .i64 0) ∧ R (i + 1) w') ∨ (∃ d, d ≠ 0 ∧ e = .returned (.int .i64 d) ∧ Q w')) :
    Calls Tryz.prog 86 #[.slice (some ⟨b, off, none⟩) n c] w fun e w' => (e = .returned (.bool true) ∧ R n w') ∨ (e = .returned (.bool false) ∧ Q w') := by
  have HS := Lib.hid hs
  have HR := Lib.hid hR
  clear hs hR
  go_enter Tryz.func86, Tryz.ntmps86
  go_wp2_with fail
  go_loopw [7] (fun iv wr => ∃ i : Nat, iv = .int .i64 i ∧ i ≤ n ∧ R i wr) (fun iv _ => n - (intOf iv).toNat)
  case atStart => exact ⟨0, by first | rfl | go_num, Nat.zero_le _, HR.out⟩
  case round =>
    clear HR
    obtain ⟨i, rfl, hi, hRi⟩ := hrel
    by_cases hlt : i < n
    · obtain ⟨f, caps, hcell, hb, hf, hC⟩ := HS.out i wr hlt hRi
      have HC := Lib.hid hC
      clear hC hRi
      rcases hf with rfl | rfl | rfl
      all_goals
        go_wp2_with fail
        refine Calls.mono HC.out ?_
        rintro e w2 (⟨rfl, h⟩ | ⟨d, hd, rfl, h⟩)
        · have HN := Lib.hid h
          clear h hcell
          go_wp2_with fail
          go_roundw
          case rel => exact ⟨i + 1, by go_num, by omega, HN.out⟩
          case measure => simp [intOf]; omega
        · have HN := Lib.hid h
          have d1 : decide (d = 0) = false := decide_eq_false hd
          have d2 : (d == 0) = false := by simpa using hd
          have d3 : (d != 0) = true := by simpa using hd
          clear h hcell
          go_wp2_with fail
          go_ret
          exact .inr ⟨rfl, HN.out⟩
    · obtain rfl : i = n := by omega
      have HN := Lib.hid hRi
      clear hRi
      go_wp2_with fail
      go_ret
      exact .inl ⟨rfl, HN.out⟩
end Go.Proofs.YtlehjmanlccncaaGreatDoor
set_option linter.unusedVariables false
set_option linter.unusedSimpArgs false
namespace Go.Proofs.YtlehjmanlccncaaGreatDoor
open Go.RowKit

inductive Op5 | gcd | quo | sub | mul | add
def Op5.fn : Op5 → FuncId
  | .gcd => 61
  | .quo => 89
  | .sub => 69
  | .mul => 68
  | .add => 65
def Op5.sem : Op5 → ByteArray → ByteArray → ByteArray × Int
  | .gcd => In.opS In.gcdZ
  | .quo => quoS
  | .sub => In.opS (fun x y => x - y)
  | .mul => In.opS (fun x y => x * y)
  | .add => In.opS (fun x y => x + y)
theorem set1_any (o : Op5) (n : Nat) (pt pa pb : Nat × Nat) (sa sb st : ByteArray) (w : World) (T : TabI w) (hS : Step w o.fn n pt pa pb) (hA : Var w pa sa) (hB : Var w pb sb) (hT : Var w pt st) :
    Calls Tryz.prog 97 (capsV n) w fun e w' => e = .returned (.int .i64 (o.sem sa sb).2) ∧ ∃ wm, Below w.heap.size w wm ∧ w' = wm.setCell ⟨pt.1, pt.2, none⟩ (.string (o.sem sa sb).1) := by
  cases o with
  | gcd => exact set1_Gcd n pt pa pb sa sb st w T hS hA hB hT
  | quo => exact set1_quo n pt pa pb sa sb st w T hS hA hB hT
  | sub => exact set1_Sub n pt pa pb sa sb st w T hS hA hB hT
  | mul => exact set1_Mul n pt pa pb sa sb st w T hS hA hB hT
  | add => exact set1_Add n pt pa pb sa sb st w T hS hA hB hT
/-- an instruction: the variable t becomes the operation of a and b -/
structure Ins where
  o : Op5
  t : Nat
  a : Nat
  b : Nat
def upd (s : Nat → ByteArray) (t : Nat) (v : ByteArray) : Nat → ByteArray := fun j => if j = t then v else s j
def sig (P : Nat → Ins) (s : Nat → ByteArray) : Nat → Nat → ByteArray
  | 0 => s
  | i + 1 => upd (sig P s i) (P i).t ((P i).o.sem (sig P s i (P i).a) (sig P s i (P i).b)).1
def er (P : Nat → Ins) (s : Nat → ByteArray) (i : Nat) : Int := ((P i).o.sem (sig P s i (P i).a) (sig P s i (P i).b)).2
/-- variables, steps and the slice of the steps, as memory holds them -/
structure Mach (w0 : World) (k n : Nat) (vb : Nat → Nat × Nat) (nb : Nat → Nat) (P : Nat → Ins) (b off : Nat) (s : Nat → ByteArray) (w : World) : Prop where
  base : Below w0.heap.size w0 w
  box : ∀ j, j < k → Var w (vb j) (s j)
  step : ∀ m, m < n → Step w (P m).o.fn (nb m) (vb (P m).t) (vb (P m).a) (vb (P m).b)
  cell : ∀ m, m < n → w.cell? ⟨b, off + m, none⟩ = some (stepV (nb m))
  lt : b < w.heap.size
/-- how they lie -/
structure Lay (w0 : World) (k n : Nat) (vb : Nat → Nat × Nat) (nb : Nat → Nat) (P : Nat → Ins) (b : Nat) : Prop where
  inj : ∀ i j, i < k → j < k → vb i = vb j → i = j
  low : ∀ j, j < k → w0.heap.size ≤ (vb j).1
  sep : ∀ m j, m < n → j < k → (vb j).1 < nb m ∨ nb m + 3 < (vb j).1
  idx : ∀ m, m < n → (P m).t < k ∧ (P m).a < k ∧ (P m).b < k
  slc : ∀ j, j < k → b ≠ (vb j).1
theorem Mach.next {w0 : World} {k n : Nat} {vb : Nat → Nat × Nat} {nb : Nat → Nat} {P : Nat → Ins} {b off : Nat} {s : Nat → ByteArray} {w w' : World} (h : Mach w0 k n vb nb P b off s w) (hb : Below w.heap.size w w') : Mach w0 k n vb nb P b off s w' :=
  ⟨Below.andThen h.base hb, fun j hj => (h.box j hj).next hb, fun m hm => (h.step m hm).next hb, fun m hm => (hb.cell (p := ⟨b, off + m, none⟩) h.lt).trans (h.cell m hm), Nat.lt_of_lt_of_le h.lt hb.size⟩
theorem Mach.exec {w0 : World} {k n : Nat} {vb : Nat → Nat × Nat} {nb : Nat → Nat} {P : Nat → Ins} {b off : Nat} {s : Nat → ByteArray} {w wm : World} (L : Lay w0 k n vb nb P b) (h : Mach w0 k n vb nb P b off s w) (hb : Below w.heap.size w wm) {t : Nat} (ht : t < k) (v : ByteArray) :
    Mach w0 k n vb nb P b off (upd s t v) (wm.setCell ⟨(vb t).1, (vb t).2, none⟩ (.string v)) := by
  have h1 := h.next hb
  refine ⟨h1.base.setCell (p := ⟨(vb t).1, (vb t).2, none⟩) (L.low t ht) _, fun j hj => ?_, fun m hm => (h1.step m hm).other (L.sep m t hm ht) _ _, fun m hm => ?_, by simpa using h1.lt⟩
  · unfold upd
    by_cases e : j = t
    · subst e
      rw [if_pos rfl]
      exact ((h.box j hj).next hb).set v
    · rw [if_neg e]
      exact ((h.box j hj).next hb).other (fun e2 => e (L.inj j t hj ht e2.symm)) _
  · rw [World.cell?_setCell_far _ _ _ _ (show (⟨(vb t).1, (vb t).2, none⟩ : Addr).block ≠ (⟨b, off + m, none⟩ : Addr).block from fun e => L.slc t ht e.symm)]
    exact h1.cell m hm
theorem chain_set (w0 : World) (k n c : Nat) (vb : Nat → Nat × Nat) (nb : Nat → Nat) (P : Nat → Ins) (b off : Nat) (s : Nat → ByteArray) (w : World) (T : TabI w0) (hn : n ≤ 10) (hc : n ≤ c) (L : Lay w0 k n vb nb P b) (h : Mach w0 k n vb nb P b off s w) (J : World → Prop) (hJ0 : J w) (hJ : ∀ W wm m v, m < n → J W → Below W.heap.size W wm → J (wm.setCell ⟨(vb (P m).t).1, (vb (P m).t).2, none⟩ v)) :
    Calls Tryz.prog 86 #[.slice (some ⟨b, off, none⟩) n c] w fun e w' =>
      (e = .returned (.bool true) ∧ (∀ m, m < n → er P s m = 0) ∧ Mach w0 k n vb nb P b off (sig P s n) w' ∧ J w') ∨ (e = .returned (.bool false) ∧ (∃ m, m < n ∧ er P s m ≠ 0) ∧ Below w0.heap.size w0 w') := by
  refine (chain_any n b off c (fun i W => (∀ m, m < i → er P s m = 0) ∧ Mach w0 k n vb nb P b off (sig P s i) W ∧ J W) (fun W => (∃ m, m < n ∧ er P s m ≠ 0) ∧ Below w0.heap.size w0 W) w hn hc ⟨fun m hm => absurd hm (Nat.not_lt_zero _), h, hJ0⟩ ?_).mono (fun _ _ h => h)
  rintro i W hi ⟨hz, hM, hj⟩
  obtain ⟨ht, ha, hb⟩ := L.idx i hi
  refine ⟨_, _, hM.cell i hi, hM.lt, .inl rfl, ?_⟩
  refine (set1_any (P i).o (nb i) _ _ _ _ _ _ W (T.next hM.base) (hM.step i hi) (hM.box _ ha) (hM.box _ hb) (hM.box _ ht)).mono ?_
  rintro e w' ⟨rfl, wm, hwm, rfl⟩
  have hX := hM.exec L hwm ht ((P i).o.sem (sig P s i (P i).a) (sig P s i (P i).b)).1
  by_cases h0 : er P s i = 0
  · left
    refine ⟨by rw [show ((P i).o.sem (sig P s i (P i).a) (sig P s i (P i).b)).2 = 0 from h0], fun m hm => ?_, hX, hJ W wm i _ hi hj hwm⟩
    rcases Nat.lt_or_ge m i with h1 | h1
    · exact hz m h1
    · obtain rfl : m = i := by omega
      exact h0
  · right
    exact ⟨_, h0, rfl, ⟨i, hi, h0⟩, hX.base⟩
end Go.Proofs.YtlehjmanlccncaaGreatDoor
set_option linter.unusedVariables false
set_option linter.unusedSimpArgs false
namespace Go.Proofs.YtlehjmanlccncaaGreatDoor
open Go.RowKit

set_option linter.unusedSectionVars false
/-! ### what the instructions of reduce calculate -/
def P5 : Nat → Ins
  | 0 => ⟨.gcd, 2, 0, 1⟩
  | 1 => ⟨.quo, 0, 0, 2⟩
  | 2 => ⟨.quo, 1, 1, 2⟩
  | 3 => ⟨.sub, 0, 3, 0⟩
  | _ => ⟨.sub, 1, 3, 1⟩
def s4 (a b c d : ByteArray) : Nat → ByteArray
  | 0 => a
  | 1 => b
  | 2 => c
  | _ => d
theorem upd_s4_0 (a b c d v : ByteArray) : upd (s4 a b c d) 0 v = s4 v b c d := by
  funext j
  match j with
  | 0 => rfl
  | 1 => rfl
  | 2 => rfl
  | n + 3 => rfl
theorem upd_s4_1 (a b c d v : ByteArray) : upd (s4 a b c d) 1 v = s4 a v c d := by
  funext j
  match j with
  | 0 => rfl
  | 1 => rfl
  | 2 => rfl
  | n + 3 => rfl
theorem upd_s4_2 (a b c d v : ByteArray) : upd (s4 a b c d) 2 v = s4 a b v d := by
  funext j
  match j with
  | 0 => rfl
  | 1 => rfl
  | 2 => rfl
  | n + 3 => rfl
theorem upd_s4_3 (a b c d v : ByteArray) : upd (s4 a b c d) 3 v = fun j => if j = 3 then v else s4 a b c d j := rfl
theorem txt0 : In.txt 0 = ⟨#[48]⟩ := ((In.num_some (show In.num ⟨#[48]⟩ = some 0 by kernel_rfl)).1).symm
section
variable {x y : Int} (hx : In.Fit x) (hy : In.Fit y) (h0 : y ≠ 0)
include hx hy h0
theorem gcd_fit : In.Fit (Ra.gcdI x y) := by
  show Int.natAbs ((Nat.gcd x.natAbs y.natAbs : Nat) : Int) < _
  rw [Int.natAbs_natCast]
  exact Nat.lt_of_le_of_lt (Nat.gcd_le_right _ (by omega)) hy
theorem sem_gcd : Op5.gcd.sem (In.txt x) (In.txt y) = (In.txt (Ra.gcdI x y), 0) := by
  show In.opS In.gcdZ _ _ = _
  rw [In.opS_some (In.num_fit hx) (In.num_fit hy)]
  exact In.fit_pos (gcd_fit hx hy h0)
theorem sem_quo : Op5.quo.sem (In.txt x) (In.txt y) = (In.txt (x / y), 0) := by
  show quoS _ _ = _
  unfold quoS
  rw [In.divS_some (In.num_fit hx) (In.num_fit hy) h0, if_pos (Nat.lt_of_le_of_lt (In.quo_le x y) hx)]
end
theorem sem_neg {x : Int} (hx : In.Fit x) : Op5.sub.sem (In.txt 0) (In.txt x) = (In.txt (-x), 0) := by
  show In.opS _ _ _ = _
  rw [In.opS_some (In.num_fit (show In.Fit 0 by decide)) (In.num_fit hx)]
  show In.fit (0 - x) = _
  rw [Int.zero_sub]
  exact In.fit_pos (by show Int.natAbs (-x) < _; rw [Int.natAbs_neg]; exact hx)
section
variable {x y : Int} (hx : In.Fit x) (hy : In.Fit y) (h0 : y ≠ 0)
include hx hy h0
/-- the states -/
theorem sig_red : sig P5 (s4 (In.txt x) (In.txt y) ⟨#[]⟩ (In.txt 0)) 3 = s4 (In.txt (x / Ra.gcdI x y)) (In.txt (y / Ra.gcdI x y)) (In.txt (Ra.gcdI x y)) (In.txt 0) ∧
    (∀ m, m < 5 → er P5 (s4 (In.txt x) (In.txt y) ⟨#[]⟩ (In.txt 0)) m = 0) ∧
    sig P5 (s4 (In.txt x) (In.txt y) ⟨#[]⟩ (In.txt 0)) 5 = s4 (In.txt (-(x / Ra.gcdI x y))) (In.txt (-(y / Ra.gcdI x y))) (In.txt (Ra.gcdI x y)) (In.txt 0) := by
  have hg := gcd_fit hx hy h0
  have hgn := Ra.gcd_ne (x := x) h0
  have f1 : In.Fit (x / Ra.gcdI x y) := Nat.lt_of_le_of_lt (In.quo_le _ _) hx
  have f2 : In.Fit (y / Ra.gcdI x y) := Nat.lt_of_le_of_lt (In.quo_le _ _) hy
  have g1 : sig P5 (s4 (In.txt x) (In.txt y) ⟨#[]⟩ (In.txt 0)) 1 = s4 (In.txt x) (In.txt y) (In.txt (Ra.gcdI x y)) (In.txt 0) := by
    show upd (s4 _ _ _ _) 2 (Op5.gcd.sem (In.txt x) (In.txt y)).1 = _
    rw [upd_s4_2, sem_gcd hx hy h0]
  have g2 : sig P5 (s4 (In.txt x) (In.txt y) ⟨#[]⟩ (In.txt 0)) 2 = s4 (In.txt (x / Ra.gcdI x y)) (In.txt y) (In.txt (Ra.gcdI x y)) (In.txt 0) := by
    show upd (sig P5 _ 1) 0 (Op5.quo.sem (sig P5 _ 1 0) (sig P5 _ 1 2)).1 = _
    rw [g1]
    show upd (s4 _ _ _ _) 0 (Op5.quo.sem (In.txt x) (In.txt (Ra.gcdI x y))).1 = _
    rw [upd_s4_0, sem_quo hx hg hgn]
  have g3 : sig P5 (s4 (In.txt x) (In.txt y) ⟨#[]⟩ (In.txt 0)) 3 = s4 (In.txt (x / Ra.gcdI x y)) (In.txt (y / Ra.gcdI x y)) (In.txt (Ra.gcdI x y)) (In.txt 0) := by
    show upd (sig P5 _ 2) 1 (Op5.quo.sem (sig P5 _ 2 1) (sig P5 _ 2 2)).1 = _
    rw [g2]
    show upd (s4 _ _ _ _) 1 (Op5.quo.sem (In.txt y) (In.txt (Ra.gcdI x y))).1 = _
    rw [upd_s4_1, sem_quo hy hg hgn]
  have g4 : sig P5 (s4 (In.txt x) (In.txt y) ⟨#[]⟩ (In.txt 0)) 4 = s4 (In.txt (-(x / Ra.gcdI x y))) (In.txt (y / Ra.gcdI x y)) (In.txt (Ra.gcdI x y)) (In.txt 0) := by
    show upd (sig P5 _ 3) 0 (Op5.sub.sem (sig P5 _ 3 3) (sig P5 _ 3 0)).1 = _
    rw [g3]
    show upd (s4 _ _ _ _) 0 (Op5.sub.sem (In.txt 0) (In.txt (x / Ra.gcdI x y))).1 = _
    rw [upd_s4_0, sem_neg f1]
  have g5 : sig P5 (s4 (In.txt x) (In.txt y) ⟨#[]⟩ (In.txt 0)) 5 = s4 (In.txt (-(x / Ra.gcdI x y))) (In.txt (-(y / Ra.gcdI x y))) (In.txt (Ra.gcdI x y)) (In.txt 0) := by
    show upd (sig P5 _ 4) 1 (Op5.sub.sem (sig P5 _ 4 3) (sig P5 _ 4 1)).1 = _
    rw [g4]
    show upd (s4 _ _ _ _) 1 (Op5.sub.sem (In.txt 0) (In.txt (y / Ra.gcdI x y))).1 = _
    rw [upd_s4_1, sem_neg f2]
  refine ⟨g3, fun m hm => ?_, g5⟩
  match m, hm with
  | 0, _ =>
    show (Op5.gcd.sem (In.txt x) (In.txt y)).2 = 0
    rw [sem_gcd hx hy h0]
  | 1, _ =>
    show (Op5.quo.sem (sig P5 _ 1 0) (sig P5 _ 1 2)).2 = 0
    rw [g1]
    show (Op5.quo.sem (In.txt x) (In.txt (Ra.gcdI x y))).2 = 0
    rw [sem_quo hx hg hgn]
  | 2, _ =>
    show (Op5.quo.sem (sig P5 _ 2 1) (sig P5 _ 2 2)).2 = 0
    rw [g2]
    show (Op5.quo.sem (In.txt y) (In.txt (Ra.gcdI x y))).2 = 0
    rw [sem_quo hy hg hgn]
  | 3, _ =>
    show (Op5.sub.sem (sig P5 _ 3 3) (sig P5 _ 3 0)).2 = 0
    rw [g3]
    show (Op5.sub.sem (In.txt 0) (In.txt (x / Ra.gcdI x y))).2 = 0
    rw [sem_neg f1]
  | 4, _ =>
    show (Op5.sub.sem (sig P5 _ 4 3) (sig P5 _ 4 1)).2 = 0
    rw [g4]
    show (Op5.sub.sem (In.txt 0) (In.txt (y / Ra.gcdI x y))).2 = 0
    rw [sem_neg f2]
end
end Go.Proofs.YtlehjmanlccncaaGreatDoor
set_option linter.unusedVariables false
set_option linter.unusedSimpArgs false
namespace Go.Proofs.YtlehjmanlccncaaGreatDoor
open Go.RowKit

theorem cells_of (w : World) (C : List Value) (t : TypeId) : ∀ j u, C[j]? = some u → (w.alloc (.cells C.toArray t)).cell? ((⟨w.heap.size, 0, none⟩ : Addr).add j) = some u := by
  intro j u hj
  have e : Addr.add ⟨w.heap.size, 0, none⟩ j = ⟨w.heap.size, j, none⟩ := by unfold Addr.add; split <;> simp_all
  rw [e, (Row.new w t C).cell j]
  exact hj
theorem addr_add (g m : Nat) : Addr.add ⟨g, 0, none⟩ m = ⟨g, 0 + m, none⟩ := by unfold Addr.add; split <;> simp_all
theorem Row.grownOver {w w' : World} {b : Nat} {t : TypeId} {C : List Value} {r : Option Nat} (h : Row w b t C) (hg : w.grownBy w' r) (hne : some b ≠ r) : Row w' b t C := (hg.block b h.lt hne).trans h
theorem infoStep : (Tryz.prog.info? 80).map (fun i => (i.zero, i.size, i.bytes)) = some (some .nilFunc, 1, 8) := by kernel_rfl
def v4 (a b c d : Nat) : Nat → Nat × Nat
  | 0 => (a, 0)
  | 1 => (b, 0)
  | 2 => (c, 0)
  | _ => (d, 0)
def n5 (a b c d e : Nat) : Nat → Nat
  | 0 => a
  | 1 => b
  | 2 => c
  | 3 => d
  | _ => e
theorem four_cases {i : Nat} (h : i < 4) : i = 0 ∨ i = 1 ∨ i = 2 ∨ i = 3 := by omega
theorem five_cases {i : Nat} (h : i < 5) : i = 0 ∨ i = 1 ∨ i = 2 ∨ i = 3 ∨ i = 4 := by omega
theorem lay_red {w0 : World} {n b0 b1 b3 b4 m1 m2 m3 m4 m5 b : Nat} (hn : n ≤ 5) (hb : b1 = b0 + 1 ∧ b3 = b0 + 3 ∧ b4 = b0 + 4 ∧ w0.heap.size ≤ b0) (h1 : b4 < m1) (h2 : b4 < m2) (h3 : b4 < m3) (h4 : n = 3 ∨ b4 < m4 ∧ b4 < m5) (h5 : b4 < b) :
    Lay w0 4 n (v4 b0 b1 b4 b3) (n5 m1 m2 m3 m4 m5) P5 b := by
  obtain ⟨e1, e3, e4, e0⟩ := hb
  refine ⟨fun i j hi hj h => ?_, fun j hj => ?_, fun m j hm hj => ?_, fun m hm => ?_, fun j hj => ?_⟩
  · rcases four_cases hi with rfl | rfl | rfl | rfl <;> rcases four_cases hj with rfl | rfl | rfl | rfl <;> simp only [v4, Prod.mk.injEq] at h <;> omega
  · rcases four_cases hj with rfl | rfl | rfl | rfl <;> simp only [v4] <;> omega
  · rcases five_cases (Nat.lt_of_lt_of_le hm hn) with rfl | rfl | rfl | rfl | rfl <;> rcases four_cases hj with rfl | rfl | rfl | rfl <;> simp only [v4, n5] <;> omega
  · rcases five_cases (Nat.lt_of_lt_of_le hm hn) with rfl | rfl | rfl | rfl | rfl <;> exact ⟨by decide, by decide, by decide⟩
  · rcases four_cases hj with rfl | rfl | rfl | rfl <;> simp only [v4] <;> omega
theorem mach_red {w0 w : World} {n b0 b1 b3 b4 m1 m2 m3 m4 m5 b off : Nat} {a c d e : ByteArray} (hn : n ≤ 5) (hb : Below w0.heap.size w0 w) (r0 : Box w b0 a) (r1 : Box w b1 c) (r4 : Box w b4 d) (r3 : Box w b3 e)
    (t1 : Step w 61 m1 (b4, 0) (b0, 0) (b1, 0)) (t2 : Step w 89 m2 (b0, 0) (b0, 0) (b4, 0)) (t3 : Step w 89 m3 (b1, 0) (b1, 0) (b4, 0))
    (t45 : n = 3 ∨ Step w 69 m4 (b0, 0) (b3, 0) (b0, 0) ∧ Step w 69 m5 (b1, 0) (b3, 0) (b1, 0)) (hc : ∀ m, m < n → w.cell? ⟨b, off + m, none⟩ = some (stepV (n5 m1 m2 m3 m4 m5 m))) (hl : b < w.heap.size) :
    Mach w0 4 n (v4 b0 b1 b4 b3) (n5 m1 m2 m3 m4 m5) P5 b off (s4 a c d e) w := by
  refine ⟨hb, fun j hj => ?_, fun m hm => ?_, hc, hl⟩
  · rcases four_cases hj with rfl | rfl | rfl | rfl
    · exact Var.of r0 rfl
    · exact Var.of r1 rfl
    · exact Var.of r4 rfl
    · exact Var.of r3 rfl
  · rcases five_cases (Nat.lt_of_lt_of_le hm hn) with rfl | rfl | rfl | rfl | rfl
    · exact t1
    · exact t2
    · exact t3
    · rcases t45 with h | h
      · omega
      · exact h.1
    · rcases t45 with h | h
      · omega
      · exact h.2
set_option maxRecDepth 100000 in
set_option maxHeartbeats 4000000 in
theorem reduce_any (x y : Int) (hx : In.Fit x) (hy : In.Fit y) (h0 : y ≠ 0) (w : World) (T : TabI w) :
    Calls Tryz.prog 58 #[.string (In.txt x), .string (In.txt y)] w fun e w' => e = .returned (.tuple #[ratV (In.txt (Ra.redN x y), In.txt (Ra.redD x y)), .int .i64 0]) ∧ Below w.heap.size w w' := by
  obtain ⟨g3, ge, g5⟩ := sig_red hx hy h0
  rw [txt0] at g3 g5 ge
  have HG := Lib.hid (And.intro g3 (And.intro ge g5))
  have HT := Lib.hid T
  have HP := Lib.hid (And.intro hx (And.intro hy h0))
  have CC := Lib.hid (fun W => Compare_any (In.txt y) ⟨#[48]⟩ W)
  rw [In.cmpS_some (In.num_fit hy) (show In.num ⟨#[48]⟩ = some 0 by kernel_rfl)] at CC
  have hcase : (y < 0 ∧ decide (In.cmpZ y 0 < 0) = true) ∨ (0 < y ∧ decide (In.cmpZ y 0 < 0) = false) := by
    unfold In.cmpZ
    rcases Int.lt_or_gt_of_ne h0 with h | h
    · exact .inl ⟨h, by rw [if_pos h]; rfl⟩
    · exact .inr ⟨h, by rw [if_neg (by omega), if_pos h]; rfl⟩
  generalize In.cmpZ y 0 = cz at *
  obtain ⟨tx, htx⟩ : ∃ s, s = In.txt x := ⟨_, rfl⟩
  obtain ⟨ty, hty⟩ : ∃ s, s = In.txt y := ⟨_, rfl⟩
  rw [← htx, ← hty] at HG ⊢
  rw [← hty] at CC
  clear T hx hy h0 g3 ge g5 htx hty
  go_enter Tryz.func58, Tryz.ntmps58
  go_upto_region 2 with (fail)
  refine wp_named fun w1 hw => ?_
  obtain ⟨b0, hb0⟩ : ∃ x, x = w.heap.size := ⟨_, rfl⟩
  obtain ⟨b1, hb1⟩ : ∃ x, x = w.heap.size + 1 := ⟨_, rfl⟩
  obtain ⟨b2, hb2⟩ : ∃ x, x = w.heap.size + 1 + 1 := ⟨_, rfl⟩
  obtain ⟨b3, hb3⟩ : ∃ x, x = w.heap.size + 1 + 1 + 1 := ⟨_, rfl⟩
  obtain ⟨b4, hb4⟩ : ∃ x, x = w.heap.size + 1 + 1 + 1 + 1 := ⟨_, rfl⟩
  have R1 : Box w1 b0 tx ∧ Box w1 b1 ty ∧ Row w1 b2 23 [.string ⟨#[]⟩, .string ⟨#[]⟩] ∧ Box w1 b3 ⟨#[48]⟩ ∧ Box w1 b4 ⟨#[]⟩ ∧ Below w.heap.size w w1 ∧ w1.heap.size = b4 + 1 := by
    rw [hw, hb0, hb1, hb2, hb3, hb4]
    refine ⟨((((Row.new w _ [.string tx]).alloc _).alloc _).alloc _).alloc _, ?_, ?_, ?_, ?_, (((((Below.refl _ _).alloc (Nat.le_refl _) _).alloc (by simp) _).alloc (by simp; omega) _).alloc (by simp; omega) _).alloc (by simp; omega) _, by simp⟩
    · have h := (((Row.new (w.alloc (.cells #[.string tx] 9)) 9 [.string ty]).alloc (.cells #[.string ⟨#[]⟩, .string ⟨#[]⟩] 23)).alloc (.cells #[.string ⟨#[48]⟩] 9)).alloc (.cells #[.string ⟨#[]⟩] 9)
      rw [World.size_alloc] at h
      exact h
    · have h := ((Row.new ((w.alloc (.cells #[.string tx] 9)).alloc (.cells #[.string ty] 9)) 23 [.string ⟨#[]⟩, .string ⟨#[]⟩]).alloc (.cells #[.string ⟨#[48]⟩] 9)).alloc (.cells #[.string ⟨#[]⟩] 9)
      rw [World.size_alloc, World.size_alloc] at h
      exact h
    · have h := (Row.new (((w.alloc (.cells #[.string tx] 9)).alloc (.cells #[.string ty] 9)).alloc (.cells #[.string ⟨#[]⟩, .string ⟨#[]⟩] 23)) 9 [.string ⟨#[48]⟩]).alloc (.cells #[.string ⟨#[]⟩] 9)
      rw [World.size_alloc, World.size_alloc, World.size_alloc] at h
      exact h
    · have h := Row.new ((((w.alloc (.cells #[.string tx] 9)).alloc (.cells #[.string ty] 9)).alloc (.cells #[.string ⟨#[]⟩, .string ⟨#[]⟩] 23)).alloc (.cells #[.string ⟨#[48]⟩] 9)) 9 [.string ⟨#[]⟩]
      rw [World.size_alloc, World.size_alloc, World.size_alloc, World.size_alloc] at h
      exact h
  rw [← hb4, ← hb3, ← hb2, ← hb1, ← hb0]
  have HE := Lib.hid (show b1 = b0 + 1 ∧ b2 = b0 + 2 ∧ b3 = b0 + 3 ∧ b4 = b0 + 4 ∧ b0 = w.heap.size from by omega)
  have HR := Lib.hid R1
  clear hw R1 hb0 hb1 hb2 hb3 hb4
  go_wp2_with fail
  refine Calls.mono (set_any_Gcd (b4, 0) (b0, 0) (b1, 0) w1) ?_
  rintro e wa ⟨rfl, hs1, hb⟩
  obtain ⟨m1, hm1⟩ : ∃ x, x = w1.heap.size := ⟨_, rfl⟩
  rw [← hm1] at hs1 ⊢
  have HA := Lib.hid (And.intro hs1 (And.intro hm1 hb))
  clear hs1 hm1 hb
  go_wp2_with fail
  refine Calls.mono (set_any_quo (b0, 0) (b0, 0) (b4, 0) wa) ?_
  rintro e wb ⟨rfl, hs2, hb⟩
  obtain ⟨m2, hm2⟩ : ∃ x, x = wa.heap.size := ⟨_, rfl⟩
  rw [← hm2] at hs2 ⊢
  have HB := Lib.hid (And.intro hs2 (And.intro hm2 hb))
  clear hs2 hm2 hb
  go_wp2_with fail
  refine Calls.mono (set_any_quo (b1, 0) (b1, 0) (b4, 0) wb) ?_
  rintro e wc ⟨rfl, hs3, hb⟩
  obtain ⟨m3, hm3⟩ : ∃ x, x = wb.heap.size := ⟨_, rfl⟩
  rw [← hm3] at hs3 ⊢
  have HC := Lib.hid (And.intro hs3 (And.intro hm3 hb))
  clear hs3 hm3 hb
  go_upto_region 3 with (fail)
  refine wp_named fun wd hw => ?_
  obtain ⟨bs, hbs⟩ : ∃ x, x = wc.heap.size := ⟨_, rfl⟩
  rw [← hbs]
  have hbd : Below wc.heap.size wc wd := by rw [hw]; exact (Below.refl _ _).alloc (Nat.le_refl _) _
  have hsl : Row wd bs 80 [stepV m1, stepV m2, stepV m3] := by rw [hw, hbs]; exact Row.new _ _ _
  have hw1 := Below.andThen (Below.andThen (Below.andThen HA.out.2.2 HB.out.2.2) HC.out.2.2) hbd
  have HD := Lib.hid (show (Box wd b0 tx ∧ Box wd b1 ty ∧ Row wd b2 23 [.string ⟨#[]⟩, .string ⟨#[]⟩] ∧ Box wd b3 ⟨#[48]⟩ ∧ Box wd b4 ⟨#[]⟩ ∧ Below w.heap.size w wd) ∧ Step wd 61 m1 (b4, 0) (b0, 0) (b1, 0) ∧ Step wd 89 m2 (b0, 0) (b0, 0) (b4, 0) ∧ Step wd 89 m3 (b1, 0) (b1, 0) (b4, 0) ∧ Row wd bs 80 [stepV m1, stepV m2, stepV m3] ∧ (b4 < m1 ∧ b4 < m2 ∧ b4 < m3 ∧ b4 < bs ∧ m1 + 3 < bs ∧ m2 + 3 < bs ∧ m3 + 3 < bs) from by
    obtain ⟨q0, q1, q2, q3, q4, q5, q6⟩ := HR.out
    have e1 := HA.out.1.lt
    have e2 := HB.out.1.lt
    have e3 := HC.out.1.lt
    have f1 := HA.out.2.1
    have f2 := HB.out.2.1
    have f3 := HC.out.2.1
    have e4 := (HB.out.1.next HC.out.2.2).lt
    have e5 := ((HA.out.1.next HB.out.2.2).next HC.out.2.2).lt
    rw [← hbs] at e3 e4 e5
    exact ⟨⟨q0.next hw1, q1.next hw1, q2.next hw1, q3.next hw1, q4.next hw1, Below.andThen q5 hw1⟩, ((HA.out.1.next HB.out.2.2).next HC.out.2.2).next hbd, (HB.out.1.next HC.out.2.2).next hbd, HC.out.1.next hbd, hsl, by omega⟩)
  have k1 := (Row.cell HD.out.1.2.1 0).trans (show _ = some (Value.string ty) from rfl)
  have k3 := (Row.cell HD.out.1.2.2.2.1 0).trans (show _ = some (Value.string ⟨#[48]⟩) from rfl)
  have l1 := HD.out.1.2.1.lt
  have l3 := HD.out.1.2.2.2.1.lt
  clear hw hbs hbd hsl hw1
  go_wp2_with fail
  with_reducible refine Calls.mono (CC.out _) ?_
  rintro e we ⟨rfl, hb⟩
  have HWE := Lib.hid hb
  clear hb k1 k3 l1 l3
  have HJ := Lib.hid (fun (W wm : World) (m : Nat) (v : Value) (h : Row W b2 23 [.string ⟨#[]⟩, .string ⟨#[]⟩]) (hm : m < 5) (hb : Below W.heap.size W wm) => show Row (wm.setCell ⟨(v4 b0 b1 b4 b3 (P5 m).t).1, (v4 b0 b1 b4 b3 (P5 m).t).2, none⟩ v) b2 23 [.string ⟨#[]⟩, .string ⟨#[]⟩] from by
    refine (h.next hb).other (fun e => ?_) _ _
    have f := HE.out
    rcases five_cases hm with rfl | rfl | rfl | rfl | rfl <;> simp only [v4, P5] at e <;> omega)
  rcases hcase with ⟨hy, d1⟩ | ⟨hy, d1⟩
  · go_wp2_with fail
    refine Calls.mono (set_any_Sub (b0, 0) (b3, 0) (b0, 0) we) ?_
    rintro e wf ⟨rfl, hs1, hb⟩
    obtain ⟨m4, hm4⟩ : ∃ x, x = we.heap.size := ⟨_, rfl⟩
    rw [← hm4] at hs1 ⊢
    have H4 := Lib.hid (And.intro hs1 (And.intro hm4 hb))
    clear hs1 hm4 hb
    go_wp2_with fail
    refine Calls.mono (set_any_Sub (b1, 0) (b3, 0) (b1, 0) wf) ?_
    rintro e wg ⟨rfl, hs2, hb⟩
    obtain ⟨m5, hm5⟩ : ∃ x, x = wf.heap.size := ⟨_, rfl⟩
    rw [← hm5] at hs2 ⊢
    have H5 := Lib.hid (And.intro hs2 (And.intro hm5 hb))
    clear hs2 hm5 hb
    obtain ⟨i0, hi, hz0, hz1, hz2⟩ := info_parts infoStep
    have hE2 := Below.andThen (Below.andThen HWE.out H4.out.2.2) H5.out.2.2
    have hown : wg.ownsRow bs 80 1 (.slice (some ⟨bs, 0, none⟩) 3 3) 3 [stepV m1, stepV m2, stepV m3] := ⟨rfl, .inr ⟨bs, 3, #[stepV m1, stepV m2, stepV m3], rfl, Nat.le_refl _, HD.out.2.2.2.2.1.next hE2, Nat.le_refl _, by decide, rfl, rfl⟩⟩
    have HOW := Lib.hid hown
    have hbw : bs ≤ wg.heap.size := Nat.le_of_lt (HD.out.2.2.2.2.1.next hE2).lt
    clear hown hE2
    go_wp2_with (at_builtin; refine wpList_append_own _ rfl _ _ 104 rfl bs 80 i0 .nilFunc 1 8 Tryz.underlying104 hi hz0 hz1 hz2 rfl (by decide) (.slice (some ⟨bs, 0, none⟩) 3 3) 3 [stepV m1, stepV m2, stepV m3] rfl (HOW.out.alloc _) ⟨wg.heap.size, 0, none⟩ 2 2 [stepV m4, stepV m5] rfl rfl (cells_of _ _ _) (by simp [Value.oneCell']) (by unfold maxLen; omega) (by omega) (by simp; omega) ?_; intro v' wz hown' hgrow _; have K := Lib.hid (And.intro hown' hgrow); clear hown' hgrow)
    have hWG := Lib.hid (Below.andThen (Below.andThen HWE.out H4.out.2.2) H5.out.2.2)
    have hrow : ∀ {b : Nat} {t : TypeId} {C : List Value}, Row wg b t C → b ≠ bs → Row wz b t C := fun {b t C} h hne => (h.alloc _).grownOver K.out.2 (by simp only [Value.ownBlock]; exact fun e => hne (Option.some.inj e))
    have hst : ∀ {op : FuncId} {n : Nat} {pt pa pb : Nat × Nat}, Step wg op n pt pa pb → n + 3 < bs ∨ bs < n → Step wz op n pt pa pb := fun {op n pt pa pb} h hne => ⟨hrow h.fop (by omega), hrow h.fto (by omega), hrow h.fa (by omega), hrow h.fb (by omega)⟩
    have hbase : Below w.heap.size w wz := by
      have h1 := Below.andThen HD.out.1.2.2.2.2.2 hWG.out
      have h2 := h1.size
      have e := HE.out
      have f := HD.out.2.2.2.2.2
      refine (h1.alloc h2 _).grown K.out.2 (by simp; omega) (fun k hk => ?_)
      have h3 : bs = k := by simpa [Value.ownBlock] using hk
      omega
    rcases K.out.1.2 with ⟨_, h9⟩ | ⟨g, cg, cur, rfl, hgb, hgh, hcg, _, _⟩
    · exact absurd h9 (by decide)
    have hcells := K.out.1.cells (g := g) rfl
    have HM := Lib.hid (show Mach w 4 5 (v4 b0 b1 b4 b3) (n5 m1 m2 m3 m4 m5) P5 g 0 (s4 tx ty ⟨#[]⟩ ⟨#[48]⟩) wz ∧ Lay w 4 5 (v4 b0 b1 b4 b3) (n5 m1 m2 m3 m4 m5) P5 g ∧ Row wz b2 23 [.string ⟨#[]⟩, .string ⟨#[]⟩] ∧ 5 ≤ cg from by
      obtain ⟨⟨q0, q1, q2, q3, q4, q5⟩, t1, t2, t3, hs, fb⟩ := HD.out
      have e := HE.out
      have hb4 := Nat.lt_of_lt_of_le hs.lt HWE.out.size
      have e4 := H4.out.2.1
      have e5 := H5.out.2.1
      have l4 := H4.out.1.lt
      have hW := hWG.out
      refine ⟨mach_red (by decide) hbase (hrow (q0.next hW) (by omega)) (hrow (q1.next hW) (by omega)) (hrow (q4.next hW) (by omega)) (hrow (q3.next hW) (by omega)) (hst (t1.next hW) (by omega)) (hst (t2.next hW) (by omega)) (hst (t3.next hW) (by omega)) (.inr ⟨hst (H4.out.1.next H5.out.2.2) (by omega), hst H5.out.1 (by omega)⟩) (fun m hm => ?_) (Array.getElem?_eq_some_iff.1 hgh).1, lay_red (by decide) (by omega) fb.1 fb.2.1 fb.2.2.1 (.inr (by omega)) (by omega), hrow (q2.next hW) (by omega), hcg⟩
      rw [← addr_add]
      rcases five_cases hm with rfl | rfl | rfl | rfl | rfl
      · exact hcells 0 _ rfl
      · exact hcells 1 _ rfl
      · exact hcells 2 _ rfl
      · exact hcells 3 _ rfl
      · exact hcells 4 _ rfl)
    have CH := Lib.hid (chain_set w 4 5 cg _ _ _ _ _ _ wz HT.out (by decide) HM.out.2.2.2 HM.out.2.1 HM.out.1 (fun W => Row W b2 23 [.string ⟨#[]⟩, .string ⟨#[]⟩]) HM.out.2.2.1 (fun W wm m v hm h hb => HJ.out W wm m v h hm hb))
    clear hrow hst hbase hcells hgb hgh hcg
    go_wp2_with fail
    refine Calls.mono CH.out ?_
    rintro e wh (⟨rfl, _, hm, hr⟩ | ⟨_, ⟨m, hm, hne⟩, _⟩)
    · have HF := Lib.hid (And.intro hm hr)
      have c0 := (hm.box 0 (by decide)).cell
      have c1 := (hm.box 1 (by decide)).cell
      rw [HG.out.2.2] at c0 c1
      have c0 : wh.cell? ⟨b0, 0, none⟩ = some (.string (In.txt (-(x / Ra.gcdI x y)))) := c0
      have c1 : wh.cell? ⟨b1, 0, none⟩ = some (.string (In.txt (-(y / Ra.gcdI x y)))) := c1
      have r0 := (hr.cell 0).trans (show _ = some (Value.string ⟨#[]⟩) from rfl)
      have r1 := (hr.cell 1).trans (show _ = some (Value.string ⟨#[]⟩) from rfl)
      have f0 := hr.frozen 0
      have f1 := hr.frozen 1
      have lr := hr.lt
      have HU := Lib.hid (show Ra.redN x y = -(x / Ra.gcdI x y) ∧ Ra.redD x y = -(y / Ra.gcdI x y) from ⟨if_pos (by omega), if_pos (by omega)⟩)
      obtain ⟨u1, hu1⟩ : ∃ s, s = In.txt (-(x / Ra.gcdI x y)) := ⟨_, rfl⟩
      obtain ⟨u2, hu2⟩ : ∃ s, s = In.txt (-(y / Ra.gcdI x y)) := ⟨_, rfl⟩
      rw [← hu1] at c0
      rw [← hu2] at c1
      have HV := Lib.hid (And.intro hu1 hu2)
      clear hm hr hu1 hu2
      go_wp2_with fail
      refine bodyPost_ret (v := .tuple #[ratV (u1, u2), .int .i64 0]) (by first | (simp [results, Tryz.results58, go_sem]; done) | simp [results, Tryz.results58, go_sem, *]) rfl ⟨by rw [HU.out.1, HU.out.2, HV.out.1, HV.out.2], (HF.out.1.base.setCell (p := ⟨b2, 0, none⟩) (by have := HE.out; show w.heap.size ≤ b2; omega) _).setCell (p := ⟨b2, 1, none⟩) (by have := HE.out; show w.heap.size ≤ b2; omega) _⟩
    · exact absurd (HG.out.2.1 m (by omega)) hne
  · have HM := Lib.hid (show Mach w 4 3 (v4 b0 b1 b4 b3) (n5 m1 m2 m3 0 0) P5 bs 0 (s4 tx ty ⟨#[]⟩ ⟨#[48]⟩) we from by
      obtain ⟨⟨q0, q1, q2, q3, q4, q5⟩, t1, t2, t3, hs, _⟩ := HD.out
      refine Mach.next (mach_red (by decide) q5 q0 q1 q4 q3 t1 t2 t3 (.inl rfl) (fun m hm => ?_) hs.lt) HWE.out
      rw [Nat.zero_add, hs.cell]
      match m, hm with
      | 0, _ => rfl
      | 1, _ => rfl
      | 2, _ => rfl)
    have HLY := Lib.hid (show Lay w 4 3 (v4 b0 b1 b4 b3) (n5 m1 m2 m3 0 0) P5 bs from by
      have e := HE.out
      have f := HD.out.2.2.2.2.2
      exact lay_red (by decide) (by omega) f.1 f.2.1 f.2.2.1 (.inl rfl) f.2.2.2.1)
    have CH := Lib.hid (chain_set w 4 3 3 _ _ _ _ _ _ we HT.out (by decide) (Nat.le_refl _) HLY.out HM.out (fun W => Row W b2 23 [.string ⟨#[]⟩, .string ⟨#[]⟩]) (HD.out.1.2.2.1.next HWE.out) (fun W wm m v hm h hb => HJ.out W wm m v h (by omega) hb))
    go_wp2_with fail
    refine Calls.mono CH.out ?_
    rintro e wf (⟨rfl, _, hm, hr⟩ | ⟨_, ⟨m, hm, hne⟩, _⟩)
    · have HF := Lib.hid (And.intro hm hr)
      have c0 := (hm.box 0 (by decide)).cell
      have c1 := (hm.box 1 (by decide)).cell
      rw [HG.out.1] at c0 c1
      have c0 : wf.cell? ⟨b0, 0, none⟩ = some (.string (In.txt (x / Ra.gcdI x y))) := c0
      have c1 : wf.cell? ⟨b1, 0, none⟩ = some (.string (In.txt (y / Ra.gcdI x y))) := c1
      have r0 := (hr.cell 0).trans (show _ = some (Value.string ⟨#[]⟩) from rfl)
      have r1 := (hr.cell 1).trans (show _ = some (Value.string ⟨#[]⟩) from rfl)
      have f0 := hr.frozen 0
      have f1 := hr.frozen 1
      have lr := hr.lt
      have HU := Lib.hid (show Ra.redN x y = x / Ra.gcdI x y ∧ Ra.redD x y = y / Ra.gcdI x y from ⟨if_neg (by omega), if_neg (by omega)⟩)
      obtain ⟨u1, hu1⟩ : ∃ s, s = In.txt (x / Ra.gcdI x y) := ⟨_, rfl⟩
      obtain ⟨u2, hu2⟩ : ∃ s, s = In.txt (y / Ra.gcdI x y) := ⟨_, rfl⟩
      rw [← hu1] at c0
      rw [← hu2] at c1
      have HV := Lib.hid (And.intro hu1 hu2)
      clear hm hr hu1 hu2
      go_wp2_with fail
      refine bodyPost_ret (v := .tuple #[ratV (u1, u2), .int .i64 0]) (by first | (simp [results, Tryz.results58, go_sem]; done) | simp [results, Tryz.results58, go_sem, *]) rfl ⟨by rw [HU.out.1, HU.out.2, HV.out.1, HV.out.2], (HF.out.1.base.setCell (p := ⟨b2, 0, none⟩) (by have := HE.out; show w.heap.size ≤ b2; omega) _).setCell (p := ⟨b2, 1, none⟩) (by have := HE.out; show w.heap.size ≤ b2; omega) _⟩
    · exact absurd (HG.out.2.1 m (by omega)) hne
end Go.Proofs.YtlehjmanlccncaaGreatDoor
