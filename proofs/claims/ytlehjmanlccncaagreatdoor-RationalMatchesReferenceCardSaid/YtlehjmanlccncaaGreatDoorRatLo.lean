/- The fractions that integers determine: Small, Long. -/
import Derived.Test.YtlehjmanlccncaaGreatDoorRatGH
import Derived.Test.YtlehjmanlccncaaGreatDoorRatWC
import Derived.Test.YtlehjmanlccncaaGreatDoorRatGM
import Derived.Test.YtlehjmanlccncaaGreatDoorRatGD
import Derived.Test.YtlehjmanlccncaaGreatDoorFloatG
import Derived.Lib.SlBytesConst
set_option linter.unusedVariables false
set_option linter.unusedSimpArgs false
namespace Go.Proofs.YtlehjmanlccncaaGreatDoor
open Go.RowKit

/-! ### Small -/
def smallP (x y : Int) : Int × Int := Ra.mkR (pickZ x 1999 - 999) (1 + pickZ y 60)
theorem small_red (x y : Int) : Ra.redO True (pickZ x 1999 - 999) (1 + pickZ y 60) = some (smallP x y) := Ra.redO_is trivial (by have := pick_in y (n := 60) (by decide); omega)
theorem small_ok (x y : Int) : Ra.Ok (smallP x y) ∧ (smallP x y).1.natAbs ≤ 999 ∧ (smallP x y).2.natAbs ≤ 60 := by
  have h1 := pick_in x (n := 1999) (by decide)
  have h2 := pick_in y (n := 60) (by decide)
  have h0 : 1 + pickZ y 60 ≠ 0 := by omega
  have hl := Ra.red_le (x := pickZ x 1999 - 999) (y := 1 + pickZ y 60) h0
  have k1 : (smallP x y).1.natAbs ≤ 999 := Nat.le_trans hl.1 (by omega)
  have k2 : (smallP x y).2.natAbs ≤ 60 := Nat.le_trans hl.2 (by omega)
  exact ⟨Ra.mk_ok h0 (Fit_int (by omega)) (Fit_int (by omega)), k1, k2⟩
set_option maxRecDepth 100000 in
set_option maxHeartbeats 4000000 in
theorem Small_any (x y : Int) (w : World) (hx : -9223372036854775808 ≤ x ∧ x ≤ 9223372036854775807) (hy : -9223372036854775808 ≤ y ∧ y ≤ 9223372036854775807) :
    Calls Tryz.prog 14 #[.agg #[.int .i64 x, .int .i64 y]] w fun e w' => e = .returned (ratV (Ra.tx (some (smallP x y)))) ∧ Below w.heap.size w w' := by
  have k1 := pick_in x (n := 1999) (by decide)
  have k2 := pick_in y (n := 60) (by decide)
  have K1 := Lib.hid (fun W => rpick_r x 1999 W (by decide) hx.1 hx.2)
  have K2 := Lib.hid (fun W => rpick_r y 60 W (by decide) hy.1 hy.2)
  have CO := Lib.hid (fun W => rOf_r (pickZ x 1999 - 999) (1 + pickZ y 60) W (by omega) (by omega))
  rw [small_red] at CO
  obtain ⟨q1, q2, hq⟩ : ∃ q1 q2, Ra.tx (some (smallP x y)) = (q1, q2) := ⟨_, _, rfl⟩
  rw [show resV (some (smallP x y)) = .tuple #[ratV (Ra.tx (some (smallP x y))), .int .i64 0] from rfl, hq] at CO
  rw [hq]
  generalize pickZ x 1999 = p1 at *
  generalize pickZ y 60 = p2 at *
  have BB := Lib.hid (Below.refl w.heap.size w)
  clear hq hx hy
  go_enter Tryz.func14, Tryz.ntmps14
  go_upto_region 1 with (fail)
  refine wp_named fun w1 hw => ?_
  obtain ⟨b0, hb0⟩ : ∃ x, x = w.heap.size := ⟨_, rfl⟩
  obtain ⟨b2, hb2⟩ : ∃ x, x = w.heap.size + 1 := ⟨_, rfl⟩
  have R1 : Row w1 b0 25 [.int .i64 x, .int .i64 y] ∧ Row w1 b2 23 [.string ⟨#[]⟩, .string ⟨#[]⟩] ∧ Below w.heap.size w w1 := by
    rw [hw, hb0, hb2]
    refine ⟨(Row.new w _ [.int .i64 x, .int .i64 y]).alloc _, ?_, ((Below.refl _ _).alloc (Nat.le_refl _) _).alloc (by simp) _⟩
    have h := Row.new (w.alloc (.cells #[.int .i64 x, .int .i64 y] 25)) 23 [.string ⟨#[]⟩, .string ⟨#[]⟩]
    rw [World.size_alloc] at h
    exact h
  rw [← hb2, ← hb0]
  have HL := Lib.hid (show w.heap.size ≤ b2 by omega)
  have A := Lib.hid R1.1
  have Z := Lib.hid R1.2.1
  replace BB := Lib.hid R1.2.2
  clear hw R1 hb0 hb2
  obtain ⟨cA0, cA1⟩ := A.out.two
  have lA := A.out.lt
  refine wp_region_late_float 11 [13] 12 13 _ (.cells #[.string ⟨#[]⟩, .string ⟨#[]⟩] 23) (by kernel_rfl) (by kernel_rfl) (fun dst _ _ _ _ h => by cases dst <;> exact h) (by kernel_rfl) (by kernel_rfl) rfl rfl (fun ρ w1 => by go_simp) w1.heap.size 0 (by simp) (fun WW hk hWW => ?_)
  simp only [List.take_succ_cons, List.take_zero, List.drop_succ_cons, List.drop_zero, List.cons_append, List.nil_append]
  repeat (go_big_quiet_step (first | (go_at_call 46; first | with_reducible exact Calls.kin_same (K1.out _) | with_reducible exact Calls.kin_same (K2.out _)) | (go_at_call 32; with_reducible exact Calls.kin (CO.out _))))
  refine wpQuiet_nil ?_
  clear hk hWW
  intro w2 b3 hfb hfl hfo
  obtain ⟨ocb3, ofb3⟩ := block_cells hfo
  have osb3 := block_lt hfo
  have HFB := Lib.hid hfb
  have HFL := Lib.hid hfl
  have HFO := Lib.hid (show Row w2 b3 23 [.string ⟨#[]⟩, .string ⟨#[]⟩] from hfo)
  clear hfo hfb hfl
  simp only [Act.put, List.setIfInBounds_toArray, List.set_cons_zero, List.set_cons_succ]
  
  clear cA0 cA1 lA
  go_upto_region 2 with (fail)
  refine wp_named fun v2 hq => ?_
  have S := Lib.hid (show Row v2 b3 23 [.string q1, .string q2] from by rw [hq]; exact (HFO.out.set 0 (.string q1)).set 1 (.string q2))
  have hb : Below w1.heap.size w1 v2 := by rw [hq]; exact (HFB.out.setCell (p := ⟨b3, 0, none⟩) HFL.out _).setCell (p := ⟨b3, 1, none⟩) HFL.out _
  replace Z := Lib.hid (Z.out.next hb)
  replace BB := Lib.hid (Below.andThen BB.out hb)
  clear hq hb HFO HFB HFL ocb3 ofb3 osb3
  obtain ⟨cS0, cS1⟩ := S.out.two
  have lS := S.out.lt
  obtain ⟨cZ0, cZ1⟩ := Z.out.two
  have lZ := Z.out.lt
  have f0 := Z.out.frozen 0
  have f1 := Z.out.frozen 1
  go_wp2_with fail
  refine bodyPost_ret (v := ratV (q1, q2)) (by first | (simp [results, Tryz.results14, go_sem]; done) | simp [results, Tryz.results14, go_sem, *]) rfl ⟨rfl, (BB.out.setCell (p := ⟨b2, 0, none⟩) HL.out _).setCell (p := ⟨b2, 1, none⟩) HL.out _⟩
/-! ### Long -/
/-- a text of digits, in the form of a number below 10^100 -/
def DT (s : ByteArray) : Prop := ∃ u : Nat, s = In.txt (u : Int) ∧ u < 10 ^ 100
def DigT (s : ByteArray) : Prop := ∀ c ∈ s.data.toList, In.isDig c = true
theorem txt_nat (u : Nat) : In.txt (u : Int) = ⟨(Lib.decDigits u).toArray⟩ := by
  unfold In.txt Lib.itoa
  rw [if_neg (by omega), Int.toNat_natCast]
theorem txt_minus {u : Nat} (h : 0 < u) : (⟨#[45]⟩ : ByteArray) ++ In.txt (u : Int) = In.txt (-(u : Int)) := by
  rw [txt_nat]
  unfold In.txt Lib.itoa
  rw [if_pos (by omega), Int.natAbs_neg, Int.natAbs_natCast]
  apply ba_ext
  rw [ba_append]
  simp
theorem digs_nil : DigT ⟨#[]⟩ := fun c h => by cases h
theorem digs_snoc {s : ByteArray} (h : DigT s) {d : Nat} (hd : d < 10) : DigT (s ++ ⟨#[UInt8.ofNat (48 + d)]⟩) := by
  intro c hc
  rw [ba_append, List.mem_append] at hc
  rcases hc with hc | hc
  · exact h c hc
  · have : c = UInt8.ofNat (48 + d) := by simpa using hc
    rw [this]
    exact (In.ofNat_dig hd).1
theorem digs_tail {s : ByteArray} (h : DigT s) : DigT (s.extract 1 s.size) := by
  intro c hc
  rw [Lib.extract_eq] at hc
  exact h c (List.mem_of_mem_drop (List.mem_of_mem_take hc))
theorem list_head {s : ByteArray} (h : 0 < s.size) : ∃ r, s.data.toList = s[0] :: r := by
  have e := ba_at s 0 h
  cases hl : s.data.toList with
  | nil => rw [hl] at e; cases e
  | cons c r =>
    rw [hl] at e
    have : c = s[0] := by simpa using e
    exact ⟨r, by rw [this]⟩
theorem dt_of {s : ByteArray} (h1 : 0 < s.size) (h2 : s.size ≤ 100) (hd : DigT s) (h : s.size ≤ 1 ∨ s[0] ≠ 48) : DT s := by
  obtain ⟨r, hr⟩ := list_head h1
  have hlen : (s[0] :: r).length = s.size := by rw [← hr]; exact (Lib.size_eq s).symm
  have hdig : ∀ x ∈ s[0] :: r, In.isDig x = true := fun x hx => hd x (by rw [hr]; exact hx)
  have key := In.val_dec r.length r s[0] rfl hdig (by
    rcases h with h | h
    · right
      rw [List.length_cons] at hlen
      exact List.eq_nil_of_length_eq_zero (by omega)
    · exact .inl h)
  refine ⟨In.val10 (s[0] :: r), ?_, ?_⟩
  · rw [txt_nat, ← key]
    exact ba_ext hr
  · have := In.val10_lt _ hdig
    rw [hlen] at this
    exact Nat.lt_of_lt_of_le this (Nat.pow_le_pow_right (by decide) h2)
theorem make_long {x y : Int} (hx : x.natAbs < 10 ^ 100) (hy : y.natAbs < 10 ^ 100) (h0 : y ≠ 0) : ∃ p : Int × Int, Ra.Ok p ∧ p.1.natAbs < 10 ^ 100 ∧ p.2.natAbs < 10 ^ 100 ∧
    ∀ W, Calls Tryz.prog 28 #[.string (In.txt x), .string (In.txt y)] W fun e w' => e = .returned (.tuple #[ratV (Ra.tx (some p)), .int .i64 0]) ∧ Below W.heap.size W w' := by
  have fx : In.Fit x := In.fit_of hx (by decide)
  have fy : In.Fit y := In.fit_of hy (by decide)
  have hl := Ra.red_le (x := x) (y := y) h0
  refine ⟨Ra.mkR x y, Ra.mk_ok h0 fx fy, Nat.lt_of_le_of_lt hl.1 hx, Nat.lt_of_le_of_lt hl.2 hy, fun W => ?_⟩
  have h := rMake_r (In.txt x) (In.txt y) W (txt_le fx) (txt_le fy)
  rw [Ra.makeS_txt fx fy h0] at h
  exact h
def strLen : Value → Nat
  | .string s => s.size
  | _ => 0
end Go.Proofs.YtlehjmanlccncaaGreatDoor
