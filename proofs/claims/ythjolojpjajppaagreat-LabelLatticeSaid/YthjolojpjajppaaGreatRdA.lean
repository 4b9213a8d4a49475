/- coding.Reader: a number is read, or the reader gives up. -/
import Derived.Test.YthjolojpjajppaaGreatLGB
import Derived.Test.YthjolojpjajppaaGreatLGA
import Derived.WalkLawsBesides
import Derived.BigQuiet
import Derived.Deep.RegionHeld3
set_option linter.unusedVariables false
set_option linter.unusedSimpArgs false
set_option linter.unnecessarySimpa false
namespace Go.Proofs.YthjolojpjajppaaGreat
open Go.RowKit
namespace Rd
/-- a reader in memory -/
def Rd (w : World) (b : Nat) (s : ByteArray) (p : Int) : Prop := Row w b 149 [.int .i64 p, .string s]
/-- the panic of a reader that gives up -/
def GU : List PanicEntry := [{ v := .iface 169 (.agg #[]), recovered := false }]
/-- what is read at an offset, and the next offset -/
def dI (s : ByteArray) (p : Int) : Option (Int × Int) := if (Wi.intR s.data.toList p).2.2 = 0 then some ((Wi.intR s.data.toList p).1, (Wi.intR s.data.toList p).2.1) else none
theorem dI_ok {s : ByteArray} {p n x : Int} (h : dI s p = some (n, x)) : 0 ≤ p ∧ p < x ∧ x ≤ s.size ∧ -maxI ≤ n ∧ n ≤ maxI := by
  unfold dI at h
  split at h
  · rename_i h0
    cases h
    have := Wi.intR_ok (l := s.data.toList) (a := p) (n := (Wi.intR s.data.toList p).1) (x := (Wi.intR s.data.toList p).2.1) (by rw [← h0])
    exact this
  · cases h
theorem demand_ok (w : World) : Calls Tryz.prog 127 #[.bool true] w fun e w' => e = .returned (.tuple #[]) ∧ w' = w := by
  go_enter Tryz.func127, Tryz.ntmps127
  go_wp2_with fail
  go_end0
  exact ⟨rfl, rfl⟩
theorem demand_no (w : World) : Calls Tryz.prog 127 #[.bool false] w fun e w' => e = .panicked GU ∧ w' = w := by
  go_enter Tryz.func127, Tryz.ntmps127
  go_wp2_with fail
  exact ⟨rfl, rfl, rfl⟩
def inI (n : Int) : Prop := -9223372036854775808 ≤ n ∧ n ≤ 9223372036854775807
abbrev ptV (b : Nat) : Value := .pointer (some ⟨b, 0, none⟩)
abbrev intF : Value := .func (.func 144) #[] #[]
/-- what a reader's call leaves: blocks but its own are as they were -/
theorem gr_trans {w w' w'' : World} {r : Option Nat} (h : w.grownBy w' r) (k : w'.grownBy w'' r) : w.grownBy w'' r :=
  ⟨k.os.trans h.os, k.tape.trans h.tape, k.output.trans h.output, Nat.le_trans h.size k.size, fun i hi hn => (k.block i (Nat.lt_of_lt_of_le hi h.size) hn).trans (h.block i hi hn)⟩
theorem gr_below {w w' : World} (r : Option Nat) (h : Below w.heap.size w w') : w.grownBy w' r := ⟨h.os, h.tape, h.output, h.size, fun i hi _ => h.block i hi⟩
theorem gr_set (w : World) (b j : Nat) (v : Value) : w.grownBy (w.setCell ⟨b, j, none⟩ v) (some b) :=
  ⟨rfl, rfl, rfl, by simp [World.setCell], fun i _ hn => Below.heap_setCell _ _ _ _ (fun e => hn (by rw [e]))⟩
theorem gr_to {w w' : World} {b : Nat} (h : w.grownBy w' (some b)) {B : Nat} (hb : B ≤ b) (hB : B ≤ w.heap.size) : Below B w w' :=
  ⟨h.os, h.tape, h.output, h.size, fun i hi => h.block i (by omega) (fun e => by cases e; omega)⟩
theorem gr_row {X Y : World} {r b : Nat} {t : TypeId} {V : List Value} (h : Row X b t V) (hg : X.grownBy Y (some r)) (hr : r ≠ b) : Row Y b t V := (hg.block _ h.lt (fun e => hr (by cases e; rfl))).trans h
/-- the end of a reader's call: a value, or the reader has given up -/
def RP {α : Type} (b : Nat) (s : ByteArray) (w : World) (V : α → World → Value → Prop) (r : Option (α × Int)) (e : Ending) (w' : World) : Prop := match r with
  | some (a, x) => (∃ v, e = .returned v ∧ V a w' v) ∧ Rd w' b s x ∧ w.grownBy w' (some b)
  | none => e = .panicked GU ∧ w.grownBy w' (some b)
def iV (n : Int) (_ : World) (v : Value) : Prop := v = .int .i64 n
theorem RP.ok {α : Type} {P : Program} {f : Nat} {vs : Array Value} {b : Nat} {s : ByteArray} {w : World} {V : α → World → Value → Prop} {r : Option (α × Int)} {a : α} {x : Int} (h : Calls P f vs w (RP b s w V r)) (hd : r = some (a, x)) :
    Calls P f vs w fun e w' => (∃ v, e = .returned v ∧ V a w' v) ∧ Rd w' b s x ∧ w.grownBy w' (some b) := by subst hd; exact h
theorem RP.int {P : Program} {f : Nat} {vs : Array Value} {b : Nat} {s : ByteArray} {w : World} {r : Option (Int × Int)} {a : Int} {x : Int} (h : Calls P f vs w (RP b s w iV r)) (hd : r = some (a, x)) :
    Calls P f vs w fun e w' => e = .returned (.int .i64 a) ∧ Rd w' b s x ∧ w.grownBy w' (some b) := by
  refine (RP.ok h hd).mono ?_
  rintro e w' ⟨⟨v, rfl, rfl⟩, h⟩
  exact ⟨rfl, h⟩
theorem RP.no {α : Type} {P : Program} {f : Nat} {vs : Array Value} {b : Nat} {s : ByteArray} {w : World} {V : α → World → Value → Prop} {r : Option (α × Int)} (h : Calls P f vs w (RP b s w V r)) (hd : r = none) :
    Calls P f vs w fun e w' => e = .panicked GU ∧ w.grownBy w' (some b) := by subst hd; exact h
set_option maxRecDepth 100000 in
set_option maxHeartbeats 2000000 in
theorem part_any (b : Nat) (s : ByteArray) (p : Int) (w : World) (h : Rd w b s p) (hs : s.size ≤ 1000000) (hp : inI p) :
    Calls Tryz.prog 143 #[ptV b, intF] w (RP b s w iV (dI s p)) := by
  have RB := Lib.hid (show Row w b 149 [.int .i64 p, .string s] from h)
  obtain ⟨n, x, c, hI⟩ : ∃ n x c, Wi.intR s.data.toList p = (n, x, c) := ⟨_, _, _, rfl⟩
  have CI := Lib.hid (fun (k : Kin w) => show Calls Tryz.prog 144 #[.string s, .int .i64 p] k.it fun e w' => e = .returned (.tuple #[.int .i64 n, .int .i64 x, .int .i64 c]) ∧ k.it = w' from by
    have := Wi.int_any s p k.it (by unfold maxLen; omega) hp.1 hp.2
    rw [hI] at this
    exact this)
  have CD := Lib.hid demand_ok
  have CN := Lib.hid demand_no
  by_cases hc : c = 0
  · subst hc
    have HD := Lib.hid (show dI s p = some (n, x) by unfold dI; rw [hI]; rfl)
    clear h hI hp
    have b0 := RB.out.cell 0
    have b1 := RB.out.cell 1
    have lb := RB.out.lt
    simp only [List.getElem?_cons_zero, List.getElem?_cons_succ] at b0 b1
    have fb0 := RB.out.frozen 0
    have fb1 := RB.out.frozen 1
    go_enter Tryz.func143, Tryz.ntmps143
    go_upto_region 1 with (fail)
    refine wp_region_kin (by kernel_rfl) (by kernel_rfl) w.heap.size 0 (by simp) (fun hk => ?_)
    repeat (go_big_quiet_step (first | (go_at_call 144; with_reducible exact Calls.kin_same (CI.out _))))
    refine wpQuiet_nil ?_
    clear hk
    intro w2 hb
    have HB2 := Lib.hid hb
    replace RB := Lib.hid (RB.out.next hb)
    clear hb
    clear b0 b1 lb fb0 fb1
    have b0 := RB.out.cell 0
    have b1 := RB.out.cell 1
    have lb := RB.out.lt
    simp only [List.getElem?_cons_zero, List.getElem?_cons_succ] at b0 b1
    have fb0 := RB.out.frozen 0
    have fb1 := RB.out.frozen 1
    go_wp2_with (go_at_call 127; with_reducible refine Calls.mono (CD.out _) ?_; rintro e w' ⟨rfl, rfl⟩)
    go_ret
    rw [HD.out]
    exact ⟨⟨_, rfl, rfl⟩, RB.out.set 0 _, gr_trans (gr_below _ HB2.out) (gr_set _ _ _ _)⟩
  · have HD := Lib.hid (show dI s p = none by unfold dI; rw [hI]; exact if_neg hc)
    have n2 : (c == 0) = false := by simpa using hc
    have n3 : decide (c = 0) = false := by simpa using hc
    clear h hI hp
    have b0 := RB.out.cell 0
    have b1 := RB.out.cell 1
    have lb := RB.out.lt
    simp only [List.getElem?_cons_zero, List.getElem?_cons_succ] at b0 b1
    have fb0 := RB.out.frozen 0
    have fb1 := RB.out.frozen 1
    go_enter Tryz.func143, Tryz.ntmps143
    go_upto_region 1 with (fail)
    refine wp_region_kin (by kernel_rfl) (by kernel_rfl) w.heap.size 0 (by simp) (fun hk => ?_)
    repeat (go_big_quiet_step (first | (go_at_call 144; with_reducible exact Calls.kin_same (CI.out _))))
    refine wpQuiet_nil ?_
    clear hk
    intro w2 hb
    have HB2 := Lib.hid hb
    clear hb
    clear RB hc
    go_wp2_with (go_at_call 127; with_reducible refine Calls.mono (CN.out _) ?_; rintro e w' ⟨rfl, rfl⟩)
    rw [HD.out]
    exact ⟨rfl, rfl, gr_below _ HB2.out⟩
set_option maxRecDepth 100000 in
theorem int_any (b : Nat) (s : ByteArray) (p : Int) (w : World) (h : Rd w b s p) (hs : s.size ≤ 1000000) (hp : inI p) :
    Calls Tryz.prog 128 #[ptV b] w (RP b s w iV (dI s p)) := by
  have CP := Lib.hid (part_any b s p w h hs hp)
  cases hd : dI s p with
  | some r =>
    obtain ⟨n, x⟩ := r
    replace CP := Lib.hid (RP.int CP.out hd)
    clear hd h hp
    go_enter Tryz.func128, Tryz.ntmps128
    go_wp2_with (go_at_call 143; with_reducible refine Calls.mono CP.out ?_; rintro e w' ⟨rfl, hr, hg⟩)
    have HR := Lib.hid hr
    have HG := Lib.hid hg
    clear hr hg
    go_wp2_with fail
    go_ret
    exact ⟨⟨_, rfl, rfl⟩, HR.out, HG.out⟩
  | none =>
    replace CP := Lib.hid (RP.no CP.out hd)
    clear hd h hp
    go_enter Tryz.func128, Tryz.ntmps128
    go_wp2_with (go_at_call 143; with_reducible refine Calls.mono CP.out ?_; rintro e w' ⟨rfl, hg⟩)
    have HG := Lib.hid hg
    clear hg
    go_wp2_with fail
    exact ⟨rfl, rfl, HG.out⟩
/-- a number from 0 to most -/
def dC (s : ByteArray) (m p : Int) : Option (Int × Int) := match dI s p with
  | some (n, x) => if 0 ≤ n ∧ n ≤ m then some (n, x) else none
  | none => none
set_option maxRecDepth 100000 in
theorem count_any (b : Nat) (s : ByteArray) (m p : Int) (w : World) (h : Rd w b s p) (hs : s.size ≤ 1000000) (hp : inI p) :
    Calls Tryz.prog 146 #[ptV b, .int .i64 m] w (RP b s w iV (dC s m p)) := by
  have CP := Lib.hid (int_any b s p w h hs hp)
  have CD := Lib.hid demand_ok
  have CN := Lib.hid demand_no
  cases hd : dI s p with
  | some r =>
    obtain ⟨n, x⟩ := r
    replace CP := Lib.hid (RP.int CP.out hd)
    by_cases hn : 0 ≤ n ∧ n ≤ m
    · have HC := Lib.hid (show dC s m p = some (n, x) by unfold dC; rw [hd]; exact if_pos hn)
      obtain ⟨h1, h2⟩ := hn
      clear hd h hp
      go_enter Tryz.func146, Tryz.ntmps146
      go_wp2_with (first | (go_at_call 128; with_reducible refine Calls.mono CP.out ?_; rintro e w' ⟨rfl, hr, hg⟩) | (go_at_call 127; with_reducible refine Calls.mono (CD.out _) ?_; rintro e w' ⟨rfl, rfl⟩))
      have HR := Lib.hid hr
      have HG := Lib.hid hg
      clear hr hg
      go_wp2_with (go_at_call 127; with_reducible refine Calls.mono (CD.out _) ?_; rintro e w' ⟨rfl, rfl⟩)
      go_ret
      rw [HC.out]
      exact ⟨⟨_, rfl, rfl⟩, HR.out, HG.out⟩
    · have HC := Lib.hid (show dC s m p = none by unfold dC; rw [hd]; exact if_neg hn)
      by_cases hz : 0 ≤ n
      · have hy : decide (n ≤ m) = false := by simp; omega
        have hy1 : decide (0 ≤ n) = true := by simp; omega
        clear hd h hp hn hz
        go_enter Tryz.func146, Tryz.ntmps146
        go_wp2_with (first | (go_at_call 128; with_reducible refine Calls.mono CP.out ?_; rintro e w' ⟨rfl, hr, hg⟩) | (go_at_call 127; with_reducible refine Calls.mono (CN.out _) ?_; rintro e w' ⟨rfl, rfl⟩))
        have HG := Lib.hid hg
        clear hr hg
        go_wp2_with (go_at_call 127; with_reducible refine Calls.mono (CN.out _) ?_; rintro e w' ⟨rfl, rfl⟩)
        rw [HC.out]
        exact ⟨rfl, rfl, HG.out⟩
      · have hy : decide (0 ≤ n) = false := by simp; omega
        clear hd h hp hn hz
        go_enter Tryz.func146, Tryz.ntmps146
        go_wp2_with (first | (go_at_call 128; with_reducible refine Calls.mono CP.out ?_; rintro e w' ⟨rfl, hr, hg⟩) | (go_at_call 127; with_reducible refine Calls.mono (CN.out _) ?_; rintro e w' ⟨rfl, rfl⟩))
        have HG := Lib.hid hg
        clear hr hg
        go_wp2_with (go_at_call 127; with_reducible refine Calls.mono (CN.out _) ?_; rintro e w' ⟨rfl, rfl⟩)
        rw [HC.out]
        exact ⟨rfl, rfl, HG.out⟩
  | none =>
    replace CP := Lib.hid (RP.no CP.out hd)
    have HC := Lib.hid (show dC s m p = none by unfold dC; rw [hd])
    clear hd h hp
    go_enter Tryz.func146, Tryz.ntmps146
    go_wp2_with (go_at_call 128; with_reducible refine Calls.mono CP.out ?_; rintro e w' ⟨rfl, hg⟩)
    have HG := Lib.hid hg
    clear hg
    go_wp2_with fail
    rw [HC.out]
    exact ⟨rfl, rfl, HG.out⟩
end Rd
end Go.Proofs.YthjolojpjajppaaGreat
