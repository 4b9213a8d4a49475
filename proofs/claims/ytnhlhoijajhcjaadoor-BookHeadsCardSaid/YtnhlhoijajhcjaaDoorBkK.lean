/- open, post, done. -/
import Derived.Test.YtnhlhoijajhcjaaDoorBkJ
import Derived.Deep.RegionHeld3
set_option linter.unusedVariables false
set_option linter.unusedSimpArgs false
set_option linter.unnecessarySimpa false
namespace Go.Proofs.YtnhlhoijajhcjaaDoor
open Go.RowKit
namespace Bk
open Sq
set_option maxRecDepth 100000 in
set_option maxHeartbeats 4000000 in
theorem open_any (acc cl : Int) (o : Option Addr) (N c : Nat) (l : List Po) (w : World) (hl : l.length = N) (hN : N ≤ 2 ^ 35) (hc : N ≤ c) (hc2 : c ≤ 9223372036854775807) (hnil : o = none → c = 0) (hS : Sl poE w o l) :
    Calls Tryd.prog 37 #[bookV acc o N c cl] w fun e w' => ∃ bk o2 c2, e = .returned (ptV bk) ∧ Led w' w.heap.size bk o2 c2 acc cl (!vd acc l cl) l ∧ Below w.heap.size w w' := by
  have CC := Lib.hid (fun W (h : Sl poE W o l) => clone_any o N c l W hl hN hnil h)
  have CV := Lib.hid (fun W (h : Sl poE W o l) => Valid_any acc cl o N c l W hl hc hc2 h)
  have SL := Lib.hid hS
  have HL := Lib.hid hl
  obtain ⟨F, hF⟩ : ∃ F, vd acc l cl = F := ⟨_, rfl⟩
  rw [hF] at CV ⊢
  clear hF hS hnil
  go_enter Tryd.func37, Tryd.ntmps37
  go_upto_region 1 with (fail)
  refine wp_named fun w1 hq => ?_
  obtain ⟨b1, e1⟩ : ∃ b, b = w.heap.size := ⟨_, rfl⟩
  have R1 := Lib.hid (show Row w1 b1 24 [.int .i64 acc, .slice o N c, .int .i64 cl] from by rw [hq, e1]; exact Row.new w _ _)
  have BB := Lib.hid (show Below w.heap.size w w1 from by rw [hq]; (repeat' first | exact Below.refl _ _ | assumption | (refine below_drewN ?_ _) | (refine Below.drew ?_) | (refine Below.alloc ?_ ?_ _) | (refine Below.setCell ?_ ?_ _) | (simp; done) | (simp; omega) | omega))
  replace SL := Lib.hid (SL.out.next BB.out)
  rw [← e1]
  clear hq e1
  have CELLS := Lib.hid (fun (W : World) (h : Below w1.heap.size w1 W) => show W.cell? ⟨b1, 0, none⟩ = some (.int .i64 acc) ∧ W.cell? ⟨b1, 1, none⟩ = some (.slice o N c) ∧ W.cell? ⟨b1, 2, none⟩ = some (.int .i64 cl) from
    ⟨(R1.out.next h).cell 0, (R1.out.next h).cell 1, (R1.out.next h).cell 2⟩)
  have SLW := Lib.hid (fun (W : World) (h : Below w1.heap.size w1 W) => SL.out.next h)
  have hB0 : Below w1.heap.size w1 w1 := Below.refl _ _
  obtain ⟨k0, k1, k2⟩ := CELLS.out w1 hB0
  have lb := R1.out.lt
  (go_region_held3 (fun w' => w'.cell? ⟨b1, 0, none⟩ = some (.int .i64 acc) ∧ w'.cell? ⟨b1, 1, none⟩ = some (.slice o N c) ∧ w'.cell? ⟨b1, 2, none⟩ = some (.int .i64 cl)) (first | exact ⟨by assumption, by assumption, by assumption⟩ | go_keep)
    (first
      | (go_at_call 67
         refine Calls.mono (CC.out _ (SLW.out _ (by first | assumption | exact Below.drew (by assumption)))) ?_
         rintro e wx1 ⟨v, rfl, ho, hbx1⟩
         have hB1 := Below.andThen (by first | assumption | exact Below.drew (by assumption) : Below w1.heap.size w1 _) hbx1
         obtain ⟨k10, k11, k12⟩ := CELLS.out wx1 hB1
         have HO := Lib.hid ho
         obtain ⟨o2, c2, rfl, -, -, -, -⟩ := ho.vw)
      | (go_at_call 24
         refine Calls.mono (CV.out _ (SLW.out _ (by first | assumption | exact Below.drew (by assumption)))) ?_
         rintro e wx2 ⟨rfl, hbx2⟩
         have hB2 := Below.andThen (by first | assumption | exact Below.drew (by assumption) : Below w1.heap.size w1 _) hbx2
         obtain ⟨k20, k21, k22⟩ := CELLS.out wx2 hB2)))
  have HB2 := Lib.hid (And.intro hbx2 hB2)
  rename_i hHeld
  clear hHeld k0 k1 k2 k10 k11 k12 k20 k21 k22 hB0 hbx1 hB1 hbx2 hB2 ho CELLS SLW CC CV
  go_wp2_with fail
  go_ret
  refine ⟨wx2.heap.size, o2, c2, rfl, ⟨?_, ?_, ?_⟩, ?_⟩
  · rw [hl]
    exact Row.new wx2 _ _
  · exact ((HO.out.next HB2.out.1).next ((Below.refl _ _).alloc (Nat.le_refl _) _)).lower (by have := BB.out.size; simpa using this)
  · have := BB.out.size; have := HB2.out.2.size; omega
  · exact (Below.andThen BB.out HB2.out.2).alloc (by have := BB.out.size; have := HB2.out.2.size; omega) _
/-- only the ledger's block, its row's, and new ones have changed -/
structure Mod (w w' : World) (bk : Nat) (r : Option Nat) : Prop where
  os : w'.os = w.os
  tape : w'.tape = w.tape
  output : w'.output = w.output
  size : w.heap.size ≤ w'.heap.size
  block : ∀ b, b < w.heap.size → b ≠ bk → some b ≠ r → w'.heap[b]? = w.heap[b]?
theorem Mod.refl (w : World) (bk : Nat) (r : Option Nat) : Mod w w bk r := ⟨rfl, rfl, rfl, Nat.le_refl _, fun _ _ _ _ => rfl⟩
theorem Mod.below {w w1 w2 : World} {bk : Nat} {r : Option Nat} (h : Mod w w1 bk r) (k : Below w1.heap.size w1 w2) : Mod w w2 bk r :=
  ⟨k.os.trans h.os, k.tape.trans h.tape, k.output.trans h.output, Nat.le_trans h.size k.size, fun b hb h1 h2 => (k.block b (Nat.lt_of_lt_of_le hb h.size)).trans (h.block b hb h1 h2)⟩
theorem Mod.set {w w1 : World} {bk : Nat} {r : Option Nat} (h : Mod w w1 bk r) (i : Nat) (v : Value) : Mod w (w1.setCell ⟨bk, i, none⟩ v) bk r :=
  ⟨h.os, h.tape, h.output, by simpa using h.size, fun b hb h1 h2 => (Below.heap_setCell w1 ⟨bk, i, none⟩ v b h1).trans (h.block b hb h1 h2)⟩
theorem Mod.grown {w w1 w2 : World} {bk : Nat} {r : Option Nat} (h : Mod w w1 bk r) (k : w1.grownBy w2 r) : Mod w w2 bk r :=
  ⟨k.os.trans h.os, k.tape.trans h.tape, k.output.trans h.output, Nat.le_trans h.size k.size, fun b hb h1 h2 => (k.block b (Nat.lt_of_lt_of_le hb h.size) h2).trans (h.block b hb h1 h2)⟩
theorem Mod.under {w w1 : World} {bk B0 : Nat} {r : Option Nat} (h : Mod w w1 bk r) (hB : B0 ≤ w.heap.size) (hk : B0 ≤ bk) (hr : ∀ j, r = some j → B0 ≤ j) : Below B0 w w1 :=
  ⟨h.os, h.tape, h.output, h.size, fun b hb => h.block b (Nat.lt_of_lt_of_le hb hB) (by omega) (fun e => by have := hr b e.symm; omega)⟩
theorem Mod.row {w w1 : World} {bk b : Nat} {r : Option Nat} {t : TypeId} {C : List Value} (h : Mod w w1 bk r) (hR : Row w b t C) (h1 : b ≠ bk) (h2 : r ≠ some b) : Row w1 b t C := (h.block b hR.lt h1 (fun e => h2 e.symm)).trans hR
end Bk
end Go.Proofs.YtnhlhoijajhcjaaDoor
