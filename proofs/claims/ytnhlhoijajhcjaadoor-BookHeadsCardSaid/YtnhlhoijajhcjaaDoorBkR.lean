/- Statement whole; Balance. -/
import Derived.Test.YtnhlhoijajhcjaaDoorBkQ
set_option linter.unusedVariables false
set_option linter.unusedSimpArgs false
set_option linter.unnecessarySimpa false
namespace Go.Proofs.YtnhlhoijajhcjaaDoor
open Go.RowKit
namespace Bk
open Sq
def sT (l : List Po) (m : Int) : Nat → Int := sumP (flt (toN m) l l.length)
def StP (acc : Int) (l : List Po) (cl m : Int) : Prop := vd acc l cl = true ∧ 0 ≤ m ∧ m < 12
instance (acc : Int) (l : List Po) (cl m : Int) : Decidable (StP acc l cl m) := by unfold StP; infer_instance
theorem Statement_any (acc cl m : Int) (o : Option Addr) (N c : Nat) (l : List Po) (w : World) (hl : l.length = N) (hc : N ≤ c) (hc2 : c ≤ 9223372036854775807) (hS : Sl poE w o l) (hd : ∀ p ∈ l, inI p.day) :
    Calls Tryd.prog 18 #[bookV acc o N c cl, .int .i64 m] w fun e w' => ((StP acc l cl m → ∃ o' c', e = .returned (.tuple #[.slice o' acc.toNat c', .int .i64 0]) ∧ Sq.Own intE 3 w' w.heap.size (.slice o' acc.toNat c') ((List.range acc.toNat).map (sT l m))) ∧
      (¬ StP acc l cl m → e = .returned errI)) ∧ Below w.heap.size w w' := by
  by_cases h : StP acc l cl m
  · have hb := (vd_iff.1 h.1).1
    have hb1 := hb.1
    refine Calls.mono (statement_ok acc cl m acc.toNat (by omega) o N c l w hl hc hc2 hS h.1 h.2.1 h.2.2 hd) ?_
    rintro e w' ⟨o', c', rfl, hO, hb⟩
    exact ⟨⟨fun _ => ⟨o', c', rfl, hO⟩, fun h2 => absurd h h2⟩, hb⟩
  · refine Calls.mono (statement_bad acc cl m o N c l w hl hc hc2 hS h) ?_
    rintro e w' ⟨rfl, hb⟩
    exact ⟨⟨fun h2 => absurd h2 h, fun _ => rfl⟩, hb⟩
abbrev errZ : Value := .tuple #[.int .i64 0, .int .i64 310]
theorem int_at {w : World} {b off : Nat} {l : List Int} (h : Sl intE w (some ⟨b, off, none⟩) l) {k : Nat} {x : Int} (hk : l[k]? = some x) : b < w.heap.size ∧ w.cell? ⟨b, off + k, none⟩ = some (.int .i64 x) := by
  rcases h with rfl | ⟨b2, off2, e, hb, hc⟩
  · simp at hk
  · cases e
    have := hc k x hk 0 (.int .i64 x) rfl
    rw [show off + k * intE.k + 0 = off + k by show off + k * 1 + 0 = _; omega] at this
    exact ⟨hb, this⟩
set_option maxRecDepth 100000 in
set_option maxHeartbeats 4000000 in
theorem Balance_any (acc cl a m : Int) (o : Option Addr) (N c : Nat) (l : List Po) (w : World) (hl : l.length = N) (hc : N ≤ c) (hc2 : c ≤ 9223372036854775807) (hS : Sl poE w o l) (hd : ∀ p ∈ l, inI p.day) :
    Calls Tryd.prog 22 #[bookV acc o N c cl, .int .i64 a, .int .i64 m] w fun e w' => e = .returned (if StP acc l cl m ∧ 0 ≤ a ∧ a < acc then .tuple #[.int .i64 (sT l m a.toNat), .int .i64 0] else errZ) ∧ Below w.heap.size w w' := by
  have CS := Lib.hid (fun W h => Statement_any acc cl m o N c l W hl hc hc2 h hd)
  have SL := Lib.hid hS
  have HB := Lib.hid (fun (h : StP acc l cl m) => (vd_iff.1 h.1).1.1)
  clear hl hc hc2 hd hS
  go_enter Tryd.func22, Tryd.ntmps22
  go_upto_region 1 with (fail)
  refine wp_named fun w1 hq => ?_
  obtain ⟨bA, eA⟩ : ∃ b, b = w.heap.size := ⟨_, rfl⟩
  have RA := Lib.hid (show Row w1 bA 24 [.int .i64 acc, .slice o N c, .int .i64 cl] from by rw [hq, eA]; exact Row.new w _ _)
  have BB := Lib.hid (show Below w.heap.size w w1 from by rw [hq]; (repeat' first | exact Below.refl _ _ | assumption | (refine below_drewN ?_ _) | (refine Below.drew ?_) | (refine Below.alloc ?_ ?_ _) | (refine Below.setCell ?_ ?_ _) | (simp; done) | (simp; omega) | omega))
  replace SL := Lib.hid (SL.out.next BB.out)
  rw [← eA]
  clear hq eA
  have a0 := RA.out.cell 0
  have a1 := RA.out.cell 1
  have a2 := RA.out.cell 2
  simp only [List.getElem?_cons_zero, List.getElem?_cons_succ] at a0 a1 a2
  have la := RA.out.lt
  go_wp2_with fail
  refine Calls.mono (CS.out _ SL.out) ?_
  rintro e w2 ⟨⟨h1, h2⟩, hb⟩
  have BB2 := Lib.hid (Below.andThen BB.out hb)
  clear a0 a1 a2 la hb CS
  by_cases hst : StP acc l cl m
  · obtain ⟨o', c', rfl, hO⟩ := h1 hst
    have hacc := HB.out hst
    obtain ⟨A, rfl⟩ : ∃ A : Nat, acc = A := ⟨acc.toNat, by omega⟩
    simp only [Int.toNat_natCast] at hO ⊢
    have HO := Lib.hid hO
    have HST := Lib.hid hst
    clear h1 h2 hO hst HB
    by_cases g1 : a < 0
    · have HE := Lib.hid (show ¬ (StP A l cl m ∧ 0 ≤ a ∧ a < (A : Int)) from fun h => by omega)
      go_wp2_with fail
      refine bodyPost_ret (v := errZ) (by first | (simp [results, Tryd.results22, go_sem]; done) | simp [results, Tryd.results22, go_sem, *]) rfl ⟨by first | rfl | rw [if_neg HE.out], BB2.out⟩
    · by_cases g2 : (A : Int) ≤ a
      · have HE := Lib.hid (show ¬ (StP A l cl m ∧ 0 ≤ a ∧ a < (A : Int)) from fun h => by omega)
        go_wp2_with fail
        refine bodyPost_ret (v := errZ) (by first | (simp [results, Tryd.results22, go_sem]; done) | simp [results, Tryd.results22, go_sem, *]) rfl ⟨by first | rfl | rw [if_neg HE.out], BB2.out⟩
      · obtain ⟨k, rfl⟩ : ∃ k : Nat, a = k := ⟨a.toNat, by omega⟩
        have hk : k < A := by omega
        have HE := Lib.hid (show StP A l cl m ∧ 0 ≤ (k : Int) ∧ (k : Int) < (A : Int) from ⟨HST.out, by omega, by omega⟩)
        obtain ⟨b2, off, eo, -, -⟩ := (Own.sl HO.out).cells (fun e => by have := congrArg List.length e; simp at this; omega)
        subst eo
        obtain ⟨lb, cb⟩ := int_at (Own.sl HO.out) (k := k) (x := sT l m k) (by rw [List.getElem?_map, List.getElem?_range hk]; rfl)
        obtain ⟨x, hx⟩ : ∃ x, sT l m k = x := ⟨_, rfl⟩
        rw [hx] at cb
        have HX := Lib.hid hx
        clear hx
        go_wp2_with fail
        refine bodyPost_ret (v := .tuple #[.int .i64 x, .int .i64 0]) (by first | (simp [results, Tryd.results22, go_sem]; done) | simp [results, Tryd.results22, go_sem, *]) rfl ⟨by rw [HX.out], BB2.out⟩
  · obtain rfl := h2 hst
    have HE := Lib.hid (show ¬ (StP acc l cl m ∧ 0 ≤ a ∧ a < acc) from fun h => hst h.1)
    clear h1 h2 hst
    go_wp2_with fail
    refine bodyPost_ret (v := errZ) (by first | (simp [results, Tryd.results22, go_sem]; done) | simp [results, Tryd.results22, go_sem, *]) rfl ⟨by first | rfl | rw [if_neg HE.out], BB2.out⟩
end Bk
end Go.Proofs.YtnhlhoijajhcjaaDoor
