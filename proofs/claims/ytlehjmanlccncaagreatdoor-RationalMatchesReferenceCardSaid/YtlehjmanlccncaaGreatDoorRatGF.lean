/- round: its two closures. -/
/- round: its chain of three steps. -/
/- round: what its steps calculate. -/
/- round: the walk. -/
/- round, Down, Up, whatever the arguments are. -/
import Derived.Test.YtlehjmanlccncaaGreatDoorRatGA
import Derived.Test.YtlehjmanlccncaaGreatDoorRatGB
import Derived.Test.YtlehjmanlccncaaGreatDoorRatGC
import Derived.Test.YtlehjmanlccncaaGreatDoorIntGD
set_option linter.unusedVariables false
set_option linter.unusedSimpArgs false
namespace Go.Proofs.YtlehjmanlccncaaGreatDoor
open Go.RowKit

set_option maxRecDepth 100000 in
set_option maxHeartbeats 4000000 in
theorem round1_any (bn br bq : Nat) (sn sq a1 a2 : ByteArray) (w : World) (T : TabI w) (hn : Box w bn sn) (hr : Row w br 23 [.string a1, .string a2]) (hq : Box w bq sq) (hne : bn ≠ bq) :
    Calls Tryz.prog 84 #[ptrV bn, ptrV br, ptrV bq] w fun e w' => e = .returned (.int .i64 (In.divS sn a2).2.2) ∧ ∃ wm, Below w.heap.size w wm ∧ w' = (wm.setCell ⟨bn, 0, none⟩ (.string (In.divS sn a2).1)).setCell ⟨bq, 0, none⟩ (.string (In.divS sn a2).2.1) := by
  have CD := Lib.hid (fun W T => Div_any sn a2 W T)
  generalize In.divS sn a2 = R at *
  obtain ⟨u1, u2, u3⟩ := R
  have HT := Lib.hid T
  have HX := Lib.hid (And.intro hn (And.intro hr hq))
  have k0 := (hn.cell 0).trans (show _ = some (Value.string sn) from rfl)
  have k1 := (hr.cell 1).trans (show _ = some (Value.string a2) from rfl)
  obtain ⟨l0, l1⟩ : bn < w.heap.size ∧ br < w.heap.size := ⟨hn.lt, hr.lt⟩
  clear T hn hr hq
  go_enter Tryz.func84, Tryz.ntmps84
  go_wp2_with fail
  with_reducible refine Calls.mono (CD.out _ HT.out) ?_
  rintro e w2 ⟨rfl, hb⟩
  have HY := Lib.hid (And.intro (HX.out.1.next hb) (HX.out.2.2.next hb))
  have HBB := Lib.hid hb
  have m0 := (HY.out.1.cell 0).trans (show _ = some (Value.string sn) from rfl)
  have m1 := (HY.out.2.cell 0).trans (show _ = some (Value.string sq) from rfl)
  have f0 := HY.out.1.frozen 0
  have f1 := HY.out.2.frozen 0
  have n0 := HY.out.1.lt
  have n1 := HY.out.2.lt
  clear hb k0 k1 l0 l1
  go_wp2_with fail
  go_ret
  exact ⟨rfl, _, HBB.out, rfl⟩
set_option maxRecDepth 100000 in
set_option maxHeartbeats 4000000 in
theorem round2_yes (bu bq bn bo : Nat) (sq sn so : ByteArray) (w : World) (T : TabI w) (hu : Row w bu 4 [.bool true]) (hq : Box w bq sq) (hn : Box w bn sn) (ho : Box w bo so) (h0 : (sq.toList == ([48] : List UInt8)) = false) :
    Calls Tryz.prog 85 #[ptrV bu, ptrV bq, ptrV bn, ptrV bo] w fun e w' => e = .returned (.int .i64 (In.opS (fun x y => x + y) sn so).2) ∧ ∃ wm, Below w.heap.size w wm ∧ w' = wm.setCell ⟨bn, 0, none⟩ (.string (In.opS (fun x y => x + y) sn so).1) := by
  have CD := Lib.hid (fun W T => Add_any sn so W T)
  have HT := Lib.hid T
  generalize In.opS (fun x y => x + y) sn so = R at *
  obtain ⟨u1, u2⟩ := R
  have HX := Lib.hid hn
  have k0 := (hu.cell 0).trans (show _ = some (Value.bool true) from rfl)
  have k1 := (hq.cell 0).trans (show _ = some (Value.string sq) from rfl)
  have k2 := (hn.cell 0).trans (show _ = some (Value.string sn) from rfl)
  have k3 := (ho.cell 0).trans (show _ = some (Value.string so) from rfl)
  obtain ⟨l0, l1, l2, l3⟩ : bu < w.heap.size ∧ bq < w.heap.size ∧ bn < w.heap.size ∧ bo < w.heap.size := ⟨hu.lt, hq.lt, hn.lt, ho.lt⟩
  clear T hu hq hn ho
  go_enter Tryz.func85, Tryz.ntmps85
  go_wp2_with fail
  with_reducible refine Calls.mono (CD.out _ HT.out) ?_
  rintro e w2 ⟨rfl, hb⟩
  have HY := Lib.hid (HX.out.next hb)
  have HBB := Lib.hid hb
  have m0 := (HY.out.cell 0).trans (show _ = some (Value.string sn) from rfl)
  have f0 := HY.out.frozen 0
  have n0 := HY.out.lt
  clear hb k0 k1 k2 k3 l0 l1 l2 l3
  go_wp2_with fail
  go_ret
  exact ⟨rfl, _, HBB.out, rfl⟩
set_option maxRecDepth 100000 in
set_option maxHeartbeats 4000000 in
theorem round2_no (bu bq bn bo : Nat) (up : Bool) (sq : ByteArray) (w : World) (hu : Row w bu 4 [.bool up]) (hq : Box w bq sq) (h0 : up = false ∨ up = true ∧ (sq.toList == ([48] : List UInt8)) = true) :
    Calls Tryz.prog 85 #[ptrV bu, ptrV bq, ptrV bn, ptrV bo] w fun e w' => e = .returned (.int .i64 0) ∧ Below w.heap.size w w' := by
  have hB := Lib.hid (Below.refl w.heap.size w)
  have k0 := (hu.cell 0).trans (show _ = some (Value.bool up) from rfl)
  have k1 := (hq.cell 0).trans (show _ = some (Value.string sq) from rfl)
  obtain ⟨l0, l1⟩ : bu < w.heap.size ∧ bq < w.heap.size := ⟨hu.lt, hq.lt⟩
  clear hu hq
  rcases h0 with rfl | ⟨rfl, h0⟩
  · go_enter Tryz.func85, Tryz.ntmps85
    go_wp2_with fail
    go_ret
    exact ⟨rfl, hB.out⟩
  · go_enter Tryz.func85, Tryz.ntmps85
    go_wp2_with fail
    go_ret
    exact ⟨rfl, hB.out⟩
end Go.Proofs.YtlehjmanlccncaaGreatDoor
set_option linter.unusedVariables false
set_option linter.unusedSimpArgs false
namespace Go.Proofs.YtlehjmanlccncaaGreatDoor
open Go.RowKit

abbrev capsR1 (bn br bq : Nat) : Array Value := #[ptrV bn, ptrV br, ptrV bq]
abbrev capsR2 (bu bq bn bo : Nat) : Array Value := #[ptrV bu, ptrV bq, ptrV bn, ptrV bo]
abbrev stepR1 (bn br bq : Nat) : Value := .func (.func 84) #[] (capsR1 bn br bq)
abbrev stepR2 (bu bq bn bo : Nat) : Value := .func (.func 85) #[] (capsR2 bu bq bn bo)
/-- where the variables of round lie: r, up, the result, one, unit, n, rest, the boxes of a step, the slice -/
structure RB where
  r : Nat
  u : Nat
  z : Nat
  o : Nat
  t : Nat
  n : Nat
  q : Nat
  m : Nat
  s : Nat
structure RB.Ok (B : RB) (w0 : World) : Prop where
  h0 : w0.heap.size ≤ B.r
  h1 : B.r < B.u
  h2 : B.u < B.z
  h3 : B.z < B.o
  h4 : B.o < B.t
  h5 : B.t < B.n
  h6 : B.n < B.q
  h7 : B.q < B.m
  h8 : B.m + 3 < B.s
structure RM (w0 : World) (B : RB) (a1 a2 so tu : ByteArray) (up : Bool) (sn sq : ByteArray) (W : World) : Prop where
  base : Below w0.heap.size w0 W
  r : Row W B.r 23 [.string a1, .string a2]
  u : Row W B.u 4 [.bool up]
  z : Row W B.z 23 [.string ⟨#[]⟩, .string ⟨#[]⟩]
  o : Box W B.o so
  t : Box W B.t tu
  n : Box W B.n sn
  q : Box W B.q sq
  st : Step W 68 B.m (B.n, 0) (B.r, 0) (B.t, 0)
  s : Row W B.s 80 [stepV B.m, stepR1 B.n B.r B.q, stepR2 B.u B.q B.n B.o]
section
variable {w0 : World} {B : RB} {a1 a2 so tu : ByteArray} {up : Bool} {sn sq : ByteArray} {W W' : World}
theorem RM.next (h : RM w0 B a1 a2 so tu up sn sq W) (hb : Below W.heap.size W W') : RM w0 B a1 a2 so tu up sn sq W' :=
  ⟨Below.andThen h.base hb, h.r.next hb, h.u.next hb, h.z.next hb, h.o.next hb, h.t.next hb, h.n.next hb, h.q.next hb, h.st.next hb, h.s.next hb⟩
theorem RM.setN (h : RM w0 B a1 a2 so tu up sn sq W) (k : B.Ok w0) (v : ByteArray) : RM w0 B a1 a2 so tu up v sq (W.setCell ⟨B.n, 0, none⟩ (.string v)) := by
  obtain ⟨h0, h1, h2, h3, h4, h5, h6, h7, h8⟩ := k
  exact ⟨h.base.setCell (p := ⟨B.n, 0, none⟩) (show w0.heap.size ≤ B.n by omega) _, h.r.other (by omega) _ _, h.u.other (by omega) _ _, h.z.other (by omega) _ _, h.o.other (by omega) _ _, h.t.other (by omega) _ _, h.n.set 0 _, h.q.other (by omega) _ _, h.st.other (by omega) _ _, h.s.other (by omega) _ _⟩
theorem RM.setQ (h : RM w0 B a1 a2 so tu up sn sq W) (k : B.Ok w0) (v : ByteArray) : RM w0 B a1 a2 so tu up sn v (W.setCell ⟨B.q, 0, none⟩ (.string v)) := by
  obtain ⟨h0, h1, h2, h3, h4, h5, h6, h7, h8⟩ := k
  exact ⟨h.base.setCell (p := ⟨B.q, 0, none⟩) (show w0.heap.size ≤ B.q by omega) _, h.r.other (by omega) _ _, h.u.other (by omega) _ _, h.z.other (by omega) _ _, h.o.other (by omega) _ _, h.t.other (by omega) _ _, h.n.other (by omega) _ _, h.q.set 0 _, h.st.other (by omega) _ _, h.s.other (by omega) _ _⟩
end
/-- what the last step makes of n -/
def raiseS (up : Bool) (so : ByteArray) (d : ByteArray × ByteArray × Int) : ByteArray × Int :=
  if up = true ∧ (d.2.1.toList == ([48] : List UInt8)) = false then In.opS (fun x y => x + y) d.1 so else (d.1, 0)
theorem chain_round (w0 : World) (B : RB) (k : B.Ok w0) (a1 a2 so tu : ByteArray) (up : Bool) (sn sq : ByteArray) (w : World) (T : TabI w0) (h : RM w0 B a1 a2 so tu up sn sq w) :
    Calls Tryz.prog 86 #[.slice (some ⟨B.s, 0, none⟩) 3 3] w fun e w' =>
      (e = .returned (.bool true) ∧ ((mulT a1 tu).2 = 0 ∧ (In.divS (mulT a1 tu).1 a2).2.2 = 0 ∧ (raiseS up so (In.divS (mulT a1 tu).1 a2)).2 = 0) ∧ RM w0 B a1 a2 so tu up (raiseS up so (In.divS (mulT a1 tu).1 a2)).1 (In.divS (mulT a1 tu).1 a2).2.1 w') ∨
      (e = .returned (.bool false) ∧ ¬ ((mulT a1 tu).2 = 0 ∧ (In.divS (mulT a1 tu).1 a2).2.2 = 0 ∧ (raiseS up so (In.divS (mulT a1 tu).1 a2)).2 = 0) ∧ ∃ sn sq, RM w0 B a1 a2 so tu up sn sq w') := by
  refine (chain_any 3 B.s 0 3
    (fun i W => match i with
      | 0 => RM w0 B a1 a2 so tu up sn sq W
      | 1 => (mulT a1 tu).2 = 0 ∧ RM w0 B a1 a2 so tu up (mulT a1 tu).1 sq W
      | 2 => ((mulT a1 tu).2 = 0 ∧ (In.divS (mulT a1 tu).1 a2).2.2 = 0) ∧ RM w0 B a1 a2 so tu up (In.divS (mulT a1 tu).1 a2).1 (In.divS (mulT a1 tu).1 a2).2.1 W
      | _ => ((mulT a1 tu).2 = 0 ∧ (In.divS (mulT a1 tu).1 a2).2.2 = 0 ∧ (raiseS up so (In.divS (mulT a1 tu).1 a2)).2 = 0) ∧ RM w0 B a1 a2 so tu up (raiseS up so (In.divS (mulT a1 tu).1 a2)).1 (In.divS (mulT a1 tu).1 a2).2.1 W)
    (fun W => ¬ ((mulT a1 tu).2 = 0 ∧ (In.divS (mulT a1 tu).1 a2).2.2 = 0 ∧ (raiseS up so (In.divS (mulT a1 tu).1 a2)).2 = 0) ∧ ∃ sn sq, RM w0 B a1 a2 so tu up sn sq W) w (by decide) (Nat.le_refl _) h ?_).mono (fun _ _ h => h)
  intro i W hi hR
  match i, hi with
  | 0, _ =>
    have hR : RM w0 B a1 a2 so tu up sn sq W := hR
    refine ⟨_, _, (hR.s.cell 0).trans rfl, hR.s.lt, .inl rfl, ?_⟩
    refine (set1_Mul B.m (B.n, 0) (B.r, 0) (B.t, 0) a1 tu sn W (T.next hR.base) hR.st (Var.of hR.r rfl) (Var.of hR.t rfl) (Var.of hR.n rfl)).mono ?_
    rintro e w' ⟨rfl, wm, hb, rfl⟩
    have hN := (hR.next hb).setN k (mulT a1 tu).1
    by_cases h0 : (mulT a1 tu).2 = 0
    · exact .inl ⟨by rw [show (In.opS (fun x y => x * y) a1 tu).2 = 0 from h0], h0, hN⟩
    · exact .inr ⟨_, h0, rfl, fun h => h0 h.1, _, _, hN⟩
  | 1, _ =>
    obtain ⟨hm, hR⟩ : (mulT a1 tu).2 = 0 ∧ RM w0 B a1 a2 so tu up (mulT a1 tu).1 sq W := hR
    refine ⟨_, _, (hR.s.cell 1).trans rfl, hR.s.lt, .inr (.inl rfl), ?_⟩
    refine (round1_any B.n B.r B.q (mulT a1 tu).1 sq a1 a2 W (T.next hR.base) hR.n hR.r hR.q (Nat.ne_of_lt k.h6)).mono ?_
    rintro e w' ⟨rfl, wm, hb, rfl⟩
    have hN := ((hR.next hb).setN k (In.divS (mulT a1 tu).1 a2).1).setQ k (In.divS (mulT a1 tu).1 a2).2.1
    by_cases h0 : (In.divS (mulT a1 tu).1 a2).2.2 = 0
    · exact .inl ⟨by rw [h0], ⟨hm, h0⟩, hN⟩
    · exact .inr ⟨_, h0, rfl, fun h => h0 h.2.1, _, _, hN⟩
  | 2, _ =>
    obtain ⟨⟨hm, hd⟩, hR⟩ : ((mulT a1 tu).2 = 0 ∧ (In.divS (mulT a1 tu).1 a2).2.2 = 0) ∧ RM w0 B a1 a2 so tu up (In.divS (mulT a1 tu).1 a2).1 (In.divS (mulT a1 tu).1 a2).2.1 W := hR
    refine ⟨_, _, (hR.s.cell 2).trans rfl, hR.s.lt, .inr (.inr rfl), ?_⟩
    generalize In.divS (mulT a1 tu).1 a2 = D at *
    by_cases hu : up = true ∧ (D.2.1.toList == ([48] : List UInt8)) = false
    · have er : raiseS up so D = In.opS (fun x y => x + y) D.1 so := if_pos hu
      rw [er]
      obtain ⟨rfl, hl⟩ := hu
      refine (round2_yes B.u B.q B.n B.o D.2.1 D.1 so W (T.next hR.base) hR.u hR.q hR.n hR.o hl).mono ?_
      rintro e w' ⟨rfl, wm, hb, rfl⟩
      have hN := (hR.next hb).setN k (In.opS (fun x y => x + y) D.1 so).1
      by_cases h0 : (In.opS (fun x y => x + y) D.1 so).2 = 0
      · exact .inl ⟨by rw [h0], ⟨hm, hd, h0⟩, hN⟩
      · exact .inr ⟨_, h0, rfl, fun h => h0 h.2.2, _, _, hN⟩
    · have er : raiseS up so D = (D.1, 0) := if_neg hu
      rw [er]
      refine (round2_no B.u B.q B.n B.o up D.2.1 W hR.u hR.q ?_).mono ?_
      · cases up with
        | false => exact .inl rfl
        | true =>
          refine .inr ⟨rfl, ?_⟩
          cases hl : (D.2.1.toList == ([48] : List UInt8)) with
          | true => rfl
          | false => exact absurd ⟨rfl, hl⟩ hu
      · rintro e w' ⟨rfl, hb⟩
        exact .inl ⟨rfl, ⟨hm, hd, rfl⟩, hR.next hb⟩
end Go.Proofs.YtlehjmanlccncaaGreatDoor
set_option linter.unusedVariables false
set_option linter.unusedSimpArgs false
namespace Go.Proofs.YtlehjmanlccncaaGreatDoor
open Go.RowKit

/-- 1 and so many zeros -/
abbrev unitS (k : Nat) : ByteArray := ⟨#[49]⟩ ++ ⟨(List.replicate k (48 : UInt8)).toArray⟩
theorem unit_all : (List.range 31).all (fun k => decide (In.num (unitS k) = some (10 ^ k : Int))) = true := by kernel_rfl
theorem unit_num {k : Nat} (hk : k ≤ 30) : In.num (unitS k) = some (10 ^ k : Int) := by
  have := List.all_eq_true.1 unit_all k (List.mem_range.2 (by omega))
  exact of_decide_eq_true this
theorem round_math (a1 a2 : ByteArray) (p : Int × Int) (hv : Ra.val (a1, a2) = some p) (up : Bool) {k : Nat} (hk : k ≤ 30) :
    (((mulT a1 (unitS k)).2 = 0 ∧ (In.divS (mulT a1 (unitS k)).1 a2).2.2 = 0 ∧ (raiseS up ⟨#[49]⟩ (In.divS (mulT a1 (unitS k)).1 a2)).2 = 0) →
      ∃ x, In.Fit x ∧ (raiseS up ⟨#[49]⟩ (In.divS (mulT a1 (unitS k)).1 a2)).1 = In.txt x ∧ Ra.roundP up p k = some (Ra.redN x (10 ^ k), Ra.redD x (10 ^ k))) ∧
    (¬ ((mulT a1 (unitS k)).2 = 0 ∧ (In.divS (mulT a1 (unitS k)).1 a2).2.2 = 0 ∧ (raiseS up ⟨#[49]⟩ (In.divS (mulT a1 (unitS k)).1 a2)).2 = 0) → Ra.roundP up p k = none) := by
  obtain ⟨hx, ho, n1, d1⟩ := Ra.val_some hv
  have hu := unit_num hk
  have h10 : (10 : Int) ^ k ≠ 0 := by
    have : (0 : Int) < 10 ^ k := Int.pow_pos (by decide)
    omega
  have m0 : mulT a1 (unitS k) = In.fit (p.1 * 10 ^ k) := In.opS_some n1 hu
  have hy := ho.low.1
  rw [m0]
  by_cases f0 : In.Fit (p.1 * 10 ^ k)
  · rw [In.fit_pos f0]
    have dd : In.divS (In.txt (p.1 * 10 ^ k)) a2 = (In.txt (p.1 * 10 ^ k / p.2), In.txt (p.1 * 10 ^ k % p.2), 0) := by
      rw [In.divS_some (In.num_fit f0) d1 (by omega), if_pos (Nat.lt_of_le_of_lt (In.quo_le _ _) f0)]
    have fq : In.Fit (p.1 * 10 ^ k / p.2) := Nat.lt_of_le_of_lt (In.quo_le _ _) f0
    dsimp only
    rw [dd]
    by_cases hc : up = true ∧ p.1 * 10 ^ k % p.2 ≠ 0
    · have er : raiseS up ⟨#[49]⟩ (In.txt (p.1 * 10 ^ k / p.2), In.txt (p.1 * 10 ^ k % p.2), 0) = In.fit (p.1 * 10 ^ k / p.2 + 1) := by
        unfold raiseS
        rw [if_pos ⟨hc.1, by dsimp only; rw [zero_text]; exact decide_eq_false hc.2⟩]
        exact In.opS_some (In.num_fit fq) num1
      have e2 : Ra.roundP up p k = Ra.redO (In.Fit (p.1 * 10 ^ k / p.2 + 1)) (p.1 * 10 ^ k / p.2 + 1) (10 ^ k) := by
        unfold Ra.roundP
        rw [if_pos f0, if_pos hc]
      rw [er, e2]
      refine ⟨fun h => ?_, fun h => ?_⟩
      · have f1 := fit_err.1 h.2.2
        exact ⟨_, f1, fit_txt f1, if_pos ⟨f1, h10⟩⟩
      · exact redO_none (fun f1 => h ⟨rfl, rfl, fit_err.2 f1⟩) _ _
    · have er : raiseS up ⟨#[49]⟩ (In.txt (p.1 * 10 ^ k / p.2), In.txt (p.1 * 10 ^ k % p.2), 0) = (In.txt (p.1 * 10 ^ k / p.2), 0) := by
        unfold raiseS
        refine if_neg (fun h => hc ⟨h.1, ?_⟩)
        have h2 := h.2
        dsimp only at h2
        rw [zero_text] at h2
        exact of_decide_eq_false h2
      have e2 : Ra.roundP up p k = Ra.redO True (p.1 * 10 ^ k / p.2) (10 ^ k) := by
        unfold Ra.roundP
        rw [if_pos f0, if_neg hc]
      rw [er, e2]
      exact ⟨fun _ => ⟨_, fq, rfl, if_pos ⟨trivial, h10⟩⟩, fun h => absurd ⟨rfl, rfl, rfl⟩ h⟩
  · rw [In.fit_neg f0]
    exact ⟨fun h => absurd h.1 (by decide), fun _ => if_neg f0⟩
end Go.Proofs.YtlehjmanlccncaaGreatDoor
set_option linter.unusedVariables false
set_option linter.unusedSimpArgs false
namespace Go.Proofs.YtlehjmanlccncaaGreatDoor
open Go.RowKit

set_option maxRecDepth 100000 in
set_option maxHeartbeats 8000000 in
theorem round_v (a1 a2 : ByteArray) (p : Int × Int) (hv : Ra.val (a1, a2) = some p) (up : Bool) (k : Nat) (hk : k ≤ 30) (w : World) (T : TabI w) :
    Calls Tryz.prog 55 #[ratV (a1, a2), .int .i64 k, .bool up] w fun e w' => e = .returned (resV (Ra.roundP up p k)) ∧ Below w.heap.size w w' := by
  have VA := Lib.hid (fun W T => Valid_r (a1, a2) W T)
  rw [hv] at VA
  have HM := Lib.hid (round_math a1 a2 p hv up hk)
  have HU := Lib.hid (unit_num hk)
  have CR := Lib.hid (fun W => repeat0 k W (by omega))
  have HT := Lib.hid T
  have e1 : decide ((k : Int) < 0) = false := by rw [decide_eq_false_iff_not]; omega
  have e2 : decide ((30 : Int) < (k : Int)) = false := by rw [decide_eq_false_iff_not]; omega
  have hz : (⟨(List.replicate k (48 : UInt8)).toArray⟩ : ByteArray).size ≤ 30 := by show (List.replicate k (48 : UInt8)).toArray.size ≤ 30; rw [List.size_toArray, List.length_replicate]; exact hk
  obtain ⟨zs, hzs⟩ : ∃ s : ByteArray, s = ⟨(List.replicate k (48 : UInt8)).toArray⟩ := ⟨_, rfl⟩
  rw [← hzs] at hz CR
  have hg : ¬ (9223372036854775807 < 1 + zs.size) := by omega
  have HZ := Lib.hid (show unitS k = ⟨#[49]⟩ ++ zs by rw [hzs])
  rw [HZ.out] at HM HU
  have htu := Lib.hid (In.num_some HU.out)
  clear T hv hk hz hzs
  go_enter Tryz.func55, Tryz.ntmps55
  go_upto_region 1 with (fail)
  refine wp_named fun w1 hw => ?_
  obtain ⟨br, hbr⟩ : ∃ x, x = w.heap.size := ⟨_, rfl⟩
  obtain ⟨bu, hbu⟩ : ∃ x, x = w.heap.size + 1 := ⟨_, rfl⟩
  obtain ⟨bz, hbz⟩ : ∃ x, x = w.heap.size + 1 + 1 := ⟨_, rfl⟩
  have R1 : Row w1 br 23 [.string a1, .string a2] ∧ Row w1 bu 4 [.bool up] ∧ Row w1 bz 23 [.string ⟨#[]⟩, .string ⟨#[]⟩] ∧ Below w.heap.size w w1 := by
    rw [hw, hbr, hbu, hbz]
    refine ⟨((Row.new w _ [.string a1, .string a2]).alloc _).alloc _, ?_, ?_, (((Below.refl _ _).alloc (Nat.le_refl _) _).alloc (by simp) _).alloc (by simp; omega) _⟩
    · have h := (Row.new (w.alloc (.cells #[.string a1, .string a2] 23)) 4 [.bool up]).alloc (.cells #[.string ⟨#[]⟩, .string ⟨#[]⟩] 23)
      rw [World.size_alloc] at h
      exact h
    · have h := Row.new ((w.alloc (.cells #[.string a1, .string a2] 23)).alloc (.cells #[.bool up] 4)) 23 [.string ⟨#[]⟩, .string ⟨#[]⟩]
      rw [World.size_alloc, World.size_alloc] at h
      exact h
  rw [← hbz, ← hbu, ← hbr]
  have HE := Lib.hid (show bu = br + 1 ∧ bz = br + 2 ∧ br = w.heap.size from by omega)
  have HR := Lib.hid R1
  have k0 := (R1.1.cell 0).trans (show _ = some (Value.string a1) from rfl)
  have k1 := (R1.1.cell 1).trans (show _ = some (Value.string a2) from rfl)
  have l0 := R1.1.lt
  clear hw R1 hbr hbu hbz
  go_wp2_with fail
  with_reducible refine Calls.mono (VA.out _ (TabI.next HT.out HR.out.2.2.2)) ?_
  rintro e w2 ⟨rfl, hb⟩
  have HS := Lib.hid (And.intro (HR.out.1.next hb) (And.intro (HR.out.2.1.next hb) (And.intro (HR.out.2.2.1.next hb) (Below.andThen HR.out.2.2.2 hb))))
  clear hb k0 k1 l0
  go_wp2_with fail
  with_reducible refine Calls.mono (CR.out _) ?_
  rintro e w3 ⟨rfl, hb⟩
  have HS3 := Lib.hid (And.intro (HS.out.1.next hb) (And.intro (HS.out.2.1.next hb) (And.intro (HS.out.2.2.1.next hb) (Below.andThen HS.out.2.2.2 hb))))
  clear hb
  go_upto_region 7 with (fail)
  refine wp_named fun w4 hw => ?_
  obtain ⟨bo, hbo⟩ : ∃ x, x = w3.heap.size := ⟨_, rfl⟩
  obtain ⟨bt, hbt⟩ : ∃ x, x = w3.heap.size + 1 := ⟨_, rfl⟩
  obtain ⟨bn, hbn⟩ : ∃ x, x = w3.heap.size + 1 + 1 := ⟨_, rfl⟩
  obtain ⟨bq, hbq⟩ : ∃ x, x = w3.heap.size + 1 + 1 + 1 := ⟨_, rfl⟩
  have R4 : Below w3.heap.size w3 w4 ∧ Box w4 bo ⟨#[49]⟩ ∧ Box w4 bt (⟨#[49]⟩ ++ zs) ∧ Box w4 bn ⟨#[]⟩ ∧ Box w4 bq ⟨#[]⟩ ∧ w4.heap.size = bq + 1 := by
    rw [hw, hbo, hbt, hbn, hbq]
    generalize hA0 : w3.alloc (.cells #[.string ⟨#[49]⟩] 9) = A0
    have z0 : A0.heap.size = w3.heap.size + 1 := by rw [← hA0]; simp
    have n0 : Box A0 w3.heap.size ⟨#[49]⟩ := by rw [← hA0]; exact Row.new _ _ _
    have p0 : Below w3.heap.size w3 A0 := by rw [← hA0]; exact (Below.refl _ _).alloc (Nat.le_refl _) _
    generalize hA1 : A0.alloc (.cells #[.string (⟨#[49]⟩ ++ zs)] 9) = A1
    have z1 : A1.heap.size = w3.heap.size + 1 + 1 := by rw [← hA1]; simp [z0]
    have n1 : Box A1 (w3.heap.size + 1) (⟨#[49]⟩ ++ zs) := by rw [← z0, ← hA1]; exact Row.new _ _ _
    have p1 : Below A0.heap.size A0 A1 := by rw [← hA1]; exact (Below.refl _ _).alloc (Nat.le_refl _) _
    generalize hA2 : A1.alloc (.cells #[.string ⟨#[]⟩] 9) = A2
    have z2 : A2.heap.size = w3.heap.size + 1 + 1 + 1 := by rw [← hA2]; simp [z1]
    have n2 : Box A2 (w3.heap.size + 1 + 1) ⟨#[]⟩ := by rw [← z1, ← hA2]; exact Row.new _ _ _
    have p2 : Below A1.heap.size A1 A2 := by rw [← hA2]; exact (Below.refl _ _).alloc (Nat.le_refl _) _
    generalize hA3 : A2.alloc (.cells #[.string ⟨#[]⟩] 9) = A3
    have z3 : A3.heap.size = w3.heap.size + 1 + 1 + 1 + 1 := by rw [← hA3]; simp [z2]
    have n3 : Box A3 (w3.heap.size + 1 + 1 + 1) ⟨#[]⟩ := by rw [← z2, ← hA3]; exact Row.new _ _ _
    have p3 : Below A2.heap.size A2 A3 := by rw [← hA3]; exact (Below.refl _ _).alloc (Nat.le_refl _) _
    have k2 := p3
    have k1 := Below.andThen p2 k2
    have k0 := Below.andThen p1 k1
    exact ⟨Below.andThen p0 k0, n0.next k0, n1.next k1, n2.next k2, n3, z3⟩
  rw [← hbq, ← hbn, ← hbt, ← hbo]
  have HE4 := Lib.hid (show bt = bo + 1 ∧ bn = bo + 2 ∧ bq = bo + 3 ∧ bz < bo from by
    have := HS3.out.2.2.1.lt
    omega)
  have H4 := Lib.hid R4
  have lr0 : br < w4.heap.size := Nat.lt_of_lt_of_le HS3.out.1.lt R4.1.size
  clear hw R4 hbo hbt hbn hbq
  go_wp2_with fail
  refine Calls.mono (set_any_Mul (bn, 0) (br, 0) (bt, 0) w4) ?_
  rintro e w5 ⟨rfl, hst, hb⟩
  have HK := Lib.hid (show (RB.mk br bu bz bo bt bn bq w4.heap.size w5.heap.size).Ok w from by
    have h1 := HE.out
    have h2 := HE4.out
    have h3 := H4.out.2.2.2.2.2
    have h4 := hst.lt
    exact ⟨show w.heap.size ≤ br by omega, show br < bu by omega, show bu < bz by omega, show bz < bo by omega, show bo < bt by omega, show bt < bn by omega, show bn < bq by omega, show bq < w4.heap.size by omega, h4⟩)
  have HRM := Lib.hid (show RM w (RB.mk br bu bz bo bt bn bq w4.heap.size w5.heap.size) a1 a2 ⟨#[49]⟩ (⟨#[49]⟩ ++ zs) up ⟨#[]⟩ ⟨#[]⟩ (w5.alloc (.cells #[stepV w4.heap.size, stepR1 bn br bq, stepR2 bu bq bn bo] 80)) from by
    have g5 : Below w5.heap.size w5 (w5.alloc (.cells #[stepV w4.heap.size, stepR1 bn br bq, stepR2 bu bq bn bo] 80)) := (Below.refl _ _).alloc (Nat.le_refl _) _
    have hs : Row (w5.alloc (.cells #[stepV w4.heap.size, stepR1 bn br bq, stepR2 bu bq bn bo] 80)) w5.heap.size 80 [stepV w4.heap.size, stepR1 bn br bq, stepR2 bu bq bn bo] := Row.new _ _ _
    obtain ⟨q0, q1, q2, q3⟩ := HS3.out
    obtain ⟨p0, p1, p2, p3, p4, _⟩ := H4.out
    have h4 := Below.andThen hb g5
    have h3 := Below.andThen p0 h4
    exact ⟨Below.andThen q3 h3, q0.next h3, q1.next h3, q2.next h3, p1.next h4, p2.next h4, p3.next h4, p4.next h4, hst.next g5, hs⟩)
  have CH := Lib.hid (chain_round w _ HK.out a1 a2 ⟨#[49]⟩ (⟨#[49]⟩ ++ zs) up _ _ _ HT.out HRM.out)
  clear hst hb lr0
  go_wp2_with fail
  refine Calls.mono CH.out ?_
  rintro e w6 (⟨rfl, hs, hm⟩ | ⟨rfl, hs, sn, sq, hm⟩)
  · obtain ⟨x, fx, hx, hr⟩ := HM.out.1 hs
    rw [hx] at hm
    have h10 : (10 : Int) ^ k ≠ 0 := by
      have : (0 : Int) < 10 ^ k := Int.pow_pos (by decide)
      omega
    have CRD := Lib.hid (fun W T => reduce_any x (10 ^ k) fx htu.out.2 h10 W T)
    rw [← htu.out.1] at CRD
    obtain ⟨X, hX⟩ : ∃ s, s = In.txt x := ⟨_, rfl⟩
    rw [← hX] at CRD hm
    obtain ⟨u1, hu1⟩ : ∃ s, s = In.txt (Ra.redN x (10 ^ k)) := ⟨_, rfl⟩
    obtain ⟨u2, hu2⟩ : ∃ s, s = In.txt (Ra.redD x (10 ^ k)) := ⟨_, rfl⟩
    rw [← hu1, ← hu2] at CRD
    have HV := Lib.hid (show resV (Ra.roundP up p k) = .tuple #[ratV (u1, u2), .int .i64 0] from by rw [hr, hu1, hu2]; rfl)
    have H6 := Lib.hid hm
    have c0 : w6.cell? ⟨bn, 0, none⟩ = some (.string X) := (hm.n.cell 0).trans rfl
    have c1 : w6.cell? ⟨bt, 0, none⟩ = some (.string (⟨#[49]⟩ ++ zs)) := (hm.t.cell 0).trans rfl
    obtain ⟨l0, l1⟩ : bn < w6.heap.size ∧ bt < w6.heap.size := ⟨hm.n.lt, hm.t.lt⟩
    clear hs hm hx hr hX hu1 hu2 fx h10 CH
    go_wp2_with fail
    with_reducible refine Calls.mono (CRD.out _ (TabI.next HT.out H6.out.base)) ?_
    rintro e w7 ⟨rfl, hb⟩
    have H7 := Lib.hid (And.intro (H6.out.z.next hb) (Below.andThen H6.out.base hb))
    have r0 : w7.cell? ⟨bz, 0, none⟩ = some (.string ⟨#[]⟩) := (H7.out.1.cell 0).trans rfl
    have r1 : w7.cell? ⟨bz, 1, none⟩ = some (.string ⟨#[]⟩) := (H7.out.1.cell 1).trans rfl
    have f0 : w7.frozen? ⟨bz, 0, none⟩ = false := H7.out.1.frozen 0
    have f1 : w7.frozen? ⟨bz, 1, none⟩ = false := H7.out.1.frozen 1
    have lr : bz < w7.heap.size := H7.out.1.lt
    clear hb c0 c1 l0 l1
    go_wp2_with fail
    have hle : w.heap.size ≤ bz := by have := HE.out; omega
    refine bodyPost_ret (v := .tuple #[ratV (u1, u2), .int .i64 0]) (by first | (simp [results, Tryz.results55, go_sem]; done) | simp [results, Tryz.results55, go_sem, *]) rfl ⟨by rw [HV.out] <;> rfl, (H7.out.2.setCell (p := ⟨bz, 0, none⟩) hle _).setCell (p := ⟨bz, 1, none⟩) hle _⟩
  · have HV := Lib.hid (HM.out.2 hs)
    have H7 := Lib.hid (And.intro hm.z hm.base)
    have r0 : w6.cell? ⟨bz, 0, none⟩ = some (.string ⟨#[]⟩) := (H7.out.1.cell 0).trans rfl
    have r1 : w6.cell? ⟨bz, 1, none⟩ = some (.string ⟨#[]⟩) := (H7.out.1.cell 1).trans rfl
    have f0 : w6.frozen? ⟨bz, 0, none⟩ = false := H7.out.1.frozen 0
    have f1 : w6.frozen? ⟨bz, 1, none⟩ = false := H7.out.1.frozen 1
    have lr : bz < w6.heap.size := H7.out.1.lt
    clear hs hm CH
    go_wp2_with fail
    have hle : w.heap.size ≤ bz := by have := HE.out; omega
    refine bodyPost_ret (v := .tuple #[.agg #[.string ⟨#[]⟩, .string ⟨#[]⟩], .int .i64 40]) (by first | (simp [results, Tryz.results55, go_sem]; done) | simp [results, Tryz.results55, go_sem, *]) rfl ⟨by rw [HV.out] <;> rfl, (H7.out.2.setCell (p := ⟨bz, 0, none⟩) hle _).setCell (p := ⟨bz, 1, none⟩) hle _⟩
end Go.Proofs.YtlehjmanlccncaaGreatDoor
set_option linter.unusedVariables false
set_option linter.unusedSimpArgs false
namespace Go.Proofs.YtlehjmanlccncaaGreatDoor
open Go.RowKit

set_option maxRecDepth 100000 in
set_option maxHeartbeats 4000000 in
theorem round_low (a1 a2 : ByteArray) (up : Bool) (K : Int) (w : World) (e1 : decide (K < 0) = true) :
    Calls Tryz.prog 55 #[ratV (a1, a2), .int .i64 K, .bool up] w fun e w' => e = .returned (resV none) ∧ Below w.heap.size w w' := by
  go_enter Tryz.func55, Tryz.ntmps55
  go_upto_region 1 with (fail)
  refine wp_named fun w1 hw => ?_
  obtain ⟨br, hbr⟩ : ∃ x, x = w.heap.size := ⟨_, rfl⟩
  obtain ⟨bu, hbu⟩ : ∃ x, x = w.heap.size + 1 := ⟨_, rfl⟩
  obtain ⟨bz, hbz⟩ : ∃ x, x = w.heap.size + 1 + 1 := ⟨_, rfl⟩
  have R1 : Row w1 br 23 [.string a1, .string a2] ∧ Row w1 bz 23 [.string ⟨#[]⟩, .string ⟨#[]⟩] ∧ Below w.heap.size w w1 := by
    rw [hw, hbr, hbz]
    refine ⟨((Row.new w _ [.string a1, .string a2]).alloc _).alloc _, ?_, (((Below.refl _ _).alloc (Nat.le_refl _) _).alloc (by simp) _).alloc (by simp; omega) _⟩
    have h := Row.new ((w.alloc (.cells #[.string a1, .string a2] 23)).alloc (.cells #[.bool up] 4)) 23 [.string ⟨#[]⟩, .string ⟨#[]⟩]
    rw [World.size_alloc, World.size_alloc] at h
    exact h
  rw [← hbz, ← hbu, ← hbr]
  have hle : w.heap.size ≤ bz := by omega
  have HR := Lib.hid R1
  clear hw R1 hbr hbu hbz
  have H7 := Lib.hid (And.intro HR.out.2.1 HR.out.2.2)
  have r0 : w1.cell? ⟨bz, 0, none⟩ = some (.string ⟨#[]⟩) := (H7.out.1.cell 0).trans rfl
  have r1 : w1.cell? ⟨bz, 1, none⟩ = some (.string ⟨#[]⟩) := (H7.out.1.cell 1).trans rfl
  have f0 : w1.frozen? ⟨bz, 0, none⟩ = false := H7.out.1.frozen 0
  have f1 : w1.frozen? ⟨bz, 1, none⟩ = false := H7.out.1.frozen 1
  have lr : bz < w1.heap.size := H7.out.1.lt
  go_wp2_with fail
  refine bodyPost_ret (v := .tuple #[.agg #[.string ⟨#[]⟩, .string ⟨#[]⟩], .int .i64 40]) (by first | (simp [results, Tryz.results55, go_sem]; done) | simp [results, Tryz.results55, go_sem, *]) rfl ⟨rfl, (H7.out.2.setCell (p := ⟨bz, 0, none⟩) hle _).setCell (p := ⟨bz, 1, none⟩) hle _⟩
set_option maxRecDepth 100000 in
set_option maxHeartbeats 4000000 in
theorem round_high (a1 a2 : ByteArray) (up : Bool) (K : Int) (w : World) (e1 : decide (K < 0) = false) (e2 : decide (30 < K) = true) :
    Calls Tryz.prog 55 #[ratV (a1, a2), .int .i64 K, .bool up] w fun e w' => e = .returned (resV none) ∧ Below w.heap.size w w' := by
  go_enter Tryz.func55, Tryz.ntmps55
  go_upto_region 1 with (fail)
  refine wp_named fun w1 hw => ?_
  obtain ⟨br, hbr⟩ : ∃ x, x = w.heap.size := ⟨_, rfl⟩
  obtain ⟨bu, hbu⟩ : ∃ x, x = w.heap.size + 1 := ⟨_, rfl⟩
  obtain ⟨bz, hbz⟩ : ∃ x, x = w.heap.size + 1 + 1 := ⟨_, rfl⟩
  have R1 : Row w1 br 23 [.string a1, .string a2] ∧ Row w1 bz 23 [.string ⟨#[]⟩, .string ⟨#[]⟩] ∧ Below w.heap.size w w1 := by
    rw [hw, hbr, hbz]
    refine ⟨((Row.new w _ [.string a1, .string a2]).alloc _).alloc _, ?_, (((Below.refl _ _).alloc (Nat.le_refl _) _).alloc (by simp) _).alloc (by simp; omega) _⟩
    have h := Row.new ((w.alloc (.cells #[.string a1, .string a2] 23)).alloc (.cells #[.bool up] 4)) 23 [.string ⟨#[]⟩, .string ⟨#[]⟩]
    rw [World.size_alloc, World.size_alloc] at h
    exact h
  rw [← hbz, ← hbu, ← hbr]
  have hle : w.heap.size ≤ bz := by omega
  have HR := Lib.hid R1
  clear hw R1 hbr hbu hbz
  have H7 := Lib.hid (And.intro HR.out.2.1 HR.out.2.2)
  have r0 : w1.cell? ⟨bz, 0, none⟩ = some (.string ⟨#[]⟩) := (H7.out.1.cell 0).trans rfl
  have r1 : w1.cell? ⟨bz, 1, none⟩ = some (.string ⟨#[]⟩) := (H7.out.1.cell 1).trans rfl
  have f0 : w1.frozen? ⟨bz, 0, none⟩ = false := H7.out.1.frozen 0
  have f1 : w1.frozen? ⟨bz, 1, none⟩ = false := H7.out.1.frozen 1
  have lr : bz < w1.heap.size := H7.out.1.lt
  go_wp2_with fail
  refine bodyPost_ret (v := .tuple #[.agg #[.string ⟨#[]⟩, .string ⟨#[]⟩], .int .i64 40]) (by first | (simp [results, Tryz.results55, go_sem]; done) | simp [results, Tryz.results55, go_sem, *]) rfl ⟨rfl, (H7.out.2.setCell (p := ⟨bz, 0, none⟩) hle _).setCell (p := ⟨bz, 1, none⟩) hle _⟩
set_option maxRecDepth 100000 in
set_option maxHeartbeats 4000000 in
theorem round_bad (a1 a2 : ByteArray) (up : Bool) (K : Int) (w : World) (T : TabI w) (hv : Ra.val (a1, a2) = none) (e1 : decide (K < 0) = false) (e2 : decide (30 < K) = false) :
    Calls Tryz.prog 55 #[ratV (a1, a2), .int .i64 K, .bool up] w fun e w' => e = .returned (resV none) ∧ Below w.heap.size w w' := by
  have VA := Lib.hid (fun W T => Valid_r (a1, a2) W T)
  rw [hv] at VA
  have HT := Lib.hid T
  clear T hv
  go_enter Tryz.func55, Tryz.ntmps55
  go_upto_region 1 with (fail)
  refine wp_named fun w1 hw => ?_
  obtain ⟨br, hbr⟩ : ∃ x, x = w.heap.size := ⟨_, rfl⟩
  obtain ⟨bu, hbu⟩ : ∃ x, x = w.heap.size + 1 := ⟨_, rfl⟩
  obtain ⟨bz, hbz⟩ : ∃ x, x = w.heap.size + 1 + 1 := ⟨_, rfl⟩
  have R1 : Row w1 br 23 [.string a1, .string a2] ∧ Row w1 bz 23 [.string ⟨#[]⟩, .string ⟨#[]⟩] ∧ Below w.heap.size w w1 := by
    rw [hw, hbr, hbz]
    refine ⟨((Row.new w _ [.string a1, .string a2]).alloc _).alloc _, ?_, (((Below.refl _ _).alloc (Nat.le_refl _) _).alloc (by simp) _).alloc (by simp; omega) _⟩
    have h := Row.new ((w.alloc (.cells #[.string a1, .string a2] 23)).alloc (.cells #[.bool up] 4)) 23 [.string ⟨#[]⟩, .string ⟨#[]⟩]
    rw [World.size_alloc, World.size_alloc] at h
    exact h
  rw [← hbz, ← hbu, ← hbr]
  have hle : w.heap.size ≤ bz := by omega
  have HR := Lib.hid R1
  clear hw R1 hbr hbu hbz
  have k0 := (HR.out.1.cell 0).trans (show _ = some (Value.string a1) from rfl)
  have k1 := (HR.out.1.cell 1).trans (show _ = some (Value.string a2) from rfl)
  have l0 := HR.out.1.lt
  go_wp2_with fail
  with_reducible refine Calls.mono (VA.out _ (TabI.next HT.out HR.out.2.2)) ?_
  rintro e w2 ⟨rfl, hb⟩
  have H7 := Lib.hid (And.intro (HR.out.2.1.next hb) (Below.andThen HR.out.2.2 hb))
  clear hb k0 k1 l0
  have r0 : w2.cell? ⟨bz, 0, none⟩ = some (.string ⟨#[]⟩) := (H7.out.1.cell 0).trans rfl
  have r1 : w2.cell? ⟨bz, 1, none⟩ = some (.string ⟨#[]⟩) := (H7.out.1.cell 1).trans rfl
  have f0 : w2.frozen? ⟨bz, 0, none⟩ = false := H7.out.1.frozen 0
  have f1 : w2.frozen? ⟨bz, 1, none⟩ = false := H7.out.1.frozen 1
  have lr : bz < w2.heap.size := H7.out.1.lt
  go_wp2_with fail
  refine bodyPost_ret (v := .tuple #[.agg #[.string ⟨#[]⟩, .string ⟨#[]⟩], .int .i64 40]) (by first | (simp [results, Tryz.results55, go_sem]; done) | simp [results, Tryz.results55, go_sem, *]) rfl ⟨rfl, (H7.out.2.setCell (p := ⟨bz, 0, none⟩) hle _).setCell (p := ⟨bz, 1, none⟩) hle _⟩
theorem round_r (r : ByteArray × ByteArray) (up : Bool) (K : Int) (w : World) (T : TabI w) :
    Calls Tryz.prog 55 #[ratV r, .int .i64 K, .bool up] w fun e w' => e = .returned (resV (Ra.roundO up (Ra.val r) K)) ∧ Below w.heap.size w w' := by
  obtain ⟨a1, a2⟩ := r
  by_cases h1 : K < 0
  · have e : Ra.roundO up (Ra.val (a1, a2)) K = none := by
      cases Ra.val (a1, a2) with
      | none => rfl
      | some p => exact if_neg (by omega)
    rw [e]
    exact round_low a1 a2 up K w (decide_eq_true h1)
  · by_cases h2 : 30 < K
    · have e : Ra.roundO up (Ra.val (a1, a2)) K = none := by
        cases Ra.val (a1, a2) with
        | none => rfl
        | some p => exact if_neg (by omega)
      rw [e]
      exact round_high a1 a2 up K w (decide_eq_false h1) (decide_eq_true h2)
    · cases hv : Ra.val (a1, a2) with
      | none => exact round_bad a1 a2 up K w T hv (decide_eq_false h1) (decide_eq_false h2)
      | some p =>
        have e : Ra.roundO up (some p) K = Ra.roundP up p K.toNat := if_pos (by omega)
        rw [e]
        obtain ⟨k, rfl⟩ : ∃ k : Nat, K = k := ⟨K.toNat, by omega⟩
        rw [Int.toNat_natCast]
        exact round_v a1 a2 p hv up k (by omega) w T
set_option maxRecDepth 100000 in
set_option maxHeartbeats 4000000 in
theorem Down_r (r : ByteArray × ByteArray) (K : Int) (w : World) (T : TabI w) :
    Calls Tryz.prog 23 #[ratV r, .int .i64 K] w fun e w' => e = .returned (resV (Ra.roundO false (Ra.val r) K)) ∧ Below w.heap.size w w' := by
  have CC := Lib.hid (fun W T => round_r r false K W T)
  obtain ⟨a1, a2⟩ := r
  have HT := Lib.hid T
  obtain ⟨q1, q2, ec, htq⟩ : ∃ (q1 q2 : ByteArray) (ec : Int), resV (Ra.roundO false (Ra.val (a1, a2)) K) = .tuple #[ratV (q1, q2), .int .i64 ec] := by
    cases Ra.roundO false (Ra.val (a1, a2)) K with
    | none => exact ⟨⟨#[]⟩, ⟨#[]⟩, 40, rfl⟩
    | some v => exact ⟨In.txt v.1, In.txt v.2, 0, rfl⟩
  rw [htq] at CC ⊢
  clear T htq
  go_enter Tryz.func23, Tryz.ntmps23
  go_upto_region 1 with (fail)
  refine wp_named fun w1 hw => ?_
  obtain ⟨b0, hb0⟩ : ∃ x, x = w.heap.size := ⟨_, rfl⟩
  obtain ⟨b2, hb2⟩ : ∃ x, x = w.heap.size + 1 := ⟨_, rfl⟩
  have R1 : Row w1 b0 23 [.string a1, .string a2] ∧ Row w1 b2 23 [.string ⟨#[]⟩, .string ⟨#[]⟩] ∧ Below w.heap.size w w1 := by
    rw [hw, hb0, hb2]
    refine ⟨(Row.new w _ [.string a1, .string a2]).alloc _, ?_, ((Below.refl _ _).alloc (Nat.le_refl _) _).alloc (by simp) _⟩
    have h := Row.new (w.alloc (.cells #[.string a1, .string a2] 23)) 23 [.string ⟨#[]⟩, .string ⟨#[]⟩]
    rw [World.size_alloc] at h
    exact h
  rw [← hb2, ← hb0]
  have hle : w.heap.size ≤ b2 := by omega
  have HR := Lib.hid R1
  have k0 := (R1.1.cell 0).trans (show _ = some (Value.string a1) from rfl)
  have k1 := (R1.1.cell 1).trans (show _ = some (Value.string a2) from rfl)
  have l0 := R1.1.lt
  clear hw R1 hb0 hb2
  go_wp2_with fail
  with_reducible refine Calls.mono (CC.out _ (TabI.next HT.out HR.out.2.2)) ?_
  rintro e w2 ⟨rfl, hb⟩
  have HX := Lib.hid (And.intro (HR.out.2.1.next hb) (Below.andThen HR.out.2.2 hb))
  have r0 := (HX.out.1.cell 0).trans (show _ = some (Value.string ⟨#[]⟩) from rfl)
  have r1 := (HX.out.1.cell 1).trans (show _ = some (Value.string ⟨#[]⟩) from rfl)
  have f0 := HX.out.1.frozen 0
  have f1 := HX.out.1.frozen 1
  have lr := HX.out.1.lt
  clear hb k0 k1 l0
  go_wp2_with fail
  refine bodyPost_ret (v := .tuple #[ratV (q1, q2), .int .i64 ec]) (by first | (simp [results, Tryz.results23, go_sem]; done) | simp [results, Tryz.results23, go_sem, *]) rfl ⟨rfl, (HX.out.2.setCell (p := ⟨b2, 0, none⟩) hle _).setCell (p := ⟨b2, 1, none⟩) hle _⟩
set_option maxRecDepth 100000 in
set_option maxHeartbeats 4000000 in
theorem Up_r (r : ByteArray × ByteArray) (K : Int) (w : World) (T : TabI w) :
    Calls Tryz.prog 25 #[ratV r, .int .i64 K] w fun e w' => e = .returned (resV (Ra.roundO true (Ra.val r) K)) ∧ Below w.heap.size w w' := by
  have CC := Lib.hid (fun W T => round_r r true K W T)
  obtain ⟨a1, a2⟩ := r
  have HT := Lib.hid T
  obtain ⟨q1, q2, ec, htq⟩ : ∃ (q1 q2 : ByteArray) (ec : Int), resV (Ra.roundO true (Ra.val (a1, a2)) K) = .tuple #[ratV (q1, q2), .int .i64 ec] := by
    cases Ra.roundO true (Ra.val (a1, a2)) K with
    | none => exact ⟨⟨#[]⟩, ⟨#[]⟩, 40, rfl⟩
    | some v => exact ⟨In.txt v.1, In.txt v.2, 0, rfl⟩
  rw [htq] at CC ⊢
  clear T htq
  go_enter Tryz.func25, Tryz.ntmps25
  go_upto_region 1 with (fail)
  refine wp_named fun w1 hw => ?_
  obtain ⟨b0, hb0⟩ : ∃ x, x = w.heap.size := ⟨_, rfl⟩
  obtain ⟨b2, hb2⟩ : ∃ x, x = w.heap.size + 1 := ⟨_, rfl⟩
  have R1 : Row w1 b0 23 [.string a1, .string a2] ∧ Row w1 b2 23 [.string ⟨#[]⟩, .string ⟨#[]⟩] ∧ Below w.heap.size w w1 := by
    rw [hw, hb0, hb2]
    refine ⟨(Row.new w _ [.string a1, .string a2]).alloc _, ?_, ((Below.refl _ _).alloc (Nat.le_refl _) _).alloc (by simp) _⟩
    have h := Row.new (w.alloc (.cells #[.string a1, .string a2] 23)) 23 [.string ⟨#[]⟩, .string ⟨#[]⟩]
    rw [World.size_alloc] at h
    exact h
  rw [← hb2, ← hb0]
  have hle : w.heap.size ≤ b2 := by omega
  have HR := Lib.hid R1
  have k0 := (R1.1.cell 0).trans (show _ = some (Value.string a1) from rfl)
  have k1 := (R1.1.cell 1).trans (show _ = some (Value.string a2) from rfl)
  have l0 := R1.1.lt
  clear hw R1 hb0 hb2
  go_wp2_with fail
  with_reducible refine Calls.mono (CC.out _ (TabI.next HT.out HR.out.2.2)) ?_
  rintro e w2 ⟨rfl, hb⟩
  have HX := Lib.hid (And.intro (HR.out.2.1.next hb) (Below.andThen HR.out.2.2 hb))
  have r0 := (HX.out.1.cell 0).trans (show _ = some (Value.string ⟨#[]⟩) from rfl)
  have r1 := (HX.out.1.cell 1).trans (show _ = some (Value.string ⟨#[]⟩) from rfl)
  have f0 := HX.out.1.frozen 0
  have f1 := HX.out.1.frozen 1
  have lr := HX.out.1.lt
  clear hb k0 k1 l0
  go_wp2_with fail
  refine bodyPost_ret (v := .tuple #[ratV (q1, q2), .int .i64 ec]) (by first | (simp [results, Tryz.results25, go_sem]; done) | simp [results, Tryz.results25, go_sem, *]) rfl ⟨rfl, (HX.out.2.setCell (p := ⟨b2, 0, none⟩) hle _).setCell (p := ⟨b2, 1, none⟩) hle _⟩
end Go.Proofs.YtlehjmanlccncaaGreatDoor
