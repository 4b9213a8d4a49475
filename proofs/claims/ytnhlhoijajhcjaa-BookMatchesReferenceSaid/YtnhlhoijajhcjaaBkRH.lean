/- The reference's Same. -/
import Derived.Test.YtnhlhoijajhcjaaBkRG
set_option linter.unusedVariables false
set_option linter.unusedSimpArgs false
namespace Go.Proofs.Ytnhlhoijajhcjaa
open Go.RowKit
namespace Bk
open Sq
def SameP (a1 d1 : Int) (l1 : List Po) (a2 d2 : Int) (l2 : List Po) : Prop := a1 = a2 ∧ d1 = d2 ∧ l1 = l2
instance (a1 d1 : Int) (l1 : List Po) (a2 d2 : Int) (l2 : List Po) : Decidable (SameP a1 d1 l1 a2 d2 l2) := by unfold SameP; infer_instance
set_option maxRecDepth 100000 in
set_option maxHeartbeats 4000000 in
theorem rSame_any (a1 d1 : Int) (o1 : Option Addr) (n1 c1 : Nat) (a2 d2 : Int) (o2 : Option Addr) (n2 c2 : Nat) (l1 l2 : List Po) (w : World) (hn : n1 ≤ 2 ^ 40) (h1 : BkW w o1 n1 c1 l1) (h2 : BkW w o2 n2 c2 l2) :
    Calls Try.prog 13 #[bookV a1 o1 n1 c1 d1, bookV a2 o2 n2 c2 d2] w fun e w' => e = .returned (.bool (decide (SameP a1 d1 l1 a2 d2 l2))) ∧ Below w.heap.size w w' := by
  have CS := Lib.hid (fun W (g1 : BkW W o1 n1 c1 l1) (g2 : BkW W o2 n2 c2 l2) => rSameP_any o1 n1 c1 o2 n2 c2 l1 l2 W g1.1 g2.1 hn g1.2.1 g2.2.1 g1.2.2.2.2 g2.2.2.2.2)
  have BW1 := Lib.hid h1
  have BW2 := Lib.hid h2
  obtain ⟨F, hF⟩ : ∃ F, decide (SameP a1 d1 l1 a2 d2 l2) = F := ⟨_, rfl⟩
  have HF := Lib.hid hF
  rw [hF]
  clear hF h1 h2
  by_cases e1 : a1 = a2
  · subst e1
    by_cases e2 : d1 = d2
    · subst e2
      have HE := Lib.hid (show decide (l1 = l2) = F from by rw [← HF.out]; unfold SameP; exact decide_eq_decide.2 ⟨fun h => ⟨rfl, rfl, h⟩, fun h => h.2.2⟩)
      rw [HE.out] at CS
      clear HF
      go_enter Try.func13, Try.ntmps13
      go_upto_region 1 with (fail)
      refine wp_named fun w1 hq => ?_
      obtain ⟨bA, eA⟩ : ∃ b, b = w.heap.size := ⟨_, rfl⟩
      obtain ⟨bB, eB⟩ : ∃ b, b = w.heap.size + 1 := ⟨_, rfl⟩
      obtain ⟨r0, r1, hB, hs⟩ := rows2 w 24 24 [.int .i64 a1, .slice o1 n1 c1, .int .i64 d1] [.int .i64 a1, .slice o2 n2 c2, .int .i64 d1] w1 hq
      rw [← eB, ← eA]
      rw [← eA] at r0
      rw [← eB] at r1
      have BB := Lib.hid hB
      replace BW1 := Lib.hid (BW1.out.next hB)
      replace BW2 := Lib.hid (BW2.out.next hB)
      have RA := Lib.hid r0
      have RB := Lib.hid r1
      clear hq eB eA hB hs r0 r1
      have a0 := RA.out.cell 0
      have a1 := RA.out.cell 1
      have a2 := RA.out.cell 2
      have la := RA.out.lt
      simp only [List.getElem?_cons_zero, List.getElem?_cons_succ] at a0 a1 a2
      have b0 := RB.out.cell 0
      have b1 := RB.out.cell 1
      have b2 := RB.out.cell 2
      have lb := RB.out.lt
      simp only [List.getElem?_cons_zero, List.getElem?_cons_succ] at b0 b1 b2
      go_wp2_with fail
      with_reducible refine Calls.mono (CS.out _ BW1.out BW2.out) ?_
      rintro e w2 ⟨rfl, hb⟩
      replace BB := Lib.hid (Below.andThen BB.out hb)
      clear hb
      clear a0 a1 a2 la
      clear b0 b1 b2 lb
      go_wp2_with fail
      go_ret
      exact ⟨rfl, BB.out⟩
    · have HE := Lib.hid (show F = false from by rw [← HF.out]; exact decide_eq_false (fun h => e2 h.2.1))
      clear HF CS
      go_enter Try.func13, Try.ntmps13
      go_wp2_with fail
      go_ret
      exact ⟨by rw [HE.out]; rfl, by (repeat' first | exact Below.refl _ _ | assumption | (refine below_drewN ?_ _) | (refine Below.drew ?_) | (refine Below.alloc ?_ ?_ _) | (refine Below.setCell ?_ ?_ _) | (simp; done) | (simp; omega) | omega)⟩
  · have HE := Lib.hid (show F = false from by rw [← HF.out]; exact decide_eq_false (fun h => e1 h.1))
    clear HF CS
    go_enter Try.func13, Try.ntmps13
    go_wp2_with fail
    go_ret
    exact ⟨by rw [HE.out]; rfl, by (repeat' first | exact Below.refl _ _ | assumption | (refine below_drewN ?_ _) | (refine Below.drew ?_) | (refine Below.alloc ?_ ?_ _) | (refine Below.setCell ?_ ?_ _) | (simp; done) | (simp; omega) | omega)⟩
end Bk
end Go.Proofs.Ytnhlhoijajhcjaa
