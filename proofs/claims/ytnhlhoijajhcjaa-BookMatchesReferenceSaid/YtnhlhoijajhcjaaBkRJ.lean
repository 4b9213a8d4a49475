/- The reference's Statement. -/
import Derived.Test.YtnhlhoijajhcjaaBkRI
set_option linter.unusedVariables false
set_option linter.unusedSimpArgs false
namespace Go.Proofs.Ytnhlhoijajhcjaa
open Go.RowKit
namespace Bk
open Sq
/-- numbers and an error, as results -/
def InEr (B0 : Nat) (x : Option (List Int)) (e : Ending) (w : World) : Prop := ∃ o N c, e = .returned (.tuple #[.slice o N c, .int .i64 (match x with | none => 310 | some _ => 0)]) ∧ (x.getD []).length = N ∧ Sq.Own intE 3 w B0 (.slice o N c) (x.getD [])
def stB (acc : Int) (l : List Po) (cl m : Int) : Option (List Int) := if StP acc l cl m then some ((List.range acc.toNat).map (sT l m)) else none
def owB (acc : Int) (l : List Po) (cl m : Int) : Option (List Int) := if OwP acc l cl m then some ((List.range acc.toNat).map (oT l m)) else none
theorem range_snoc (f : Nat → Int) (k : Nat) : (List.range (k + 1)).map f = (List.range k).map f ++ [f k] := by rw [List.range_succ, List.map_append]; rfl
set_option maxRecDepth 100000 in
set_option maxHeartbeats 8000000 in
theorem rstatement_bad (acc cl m : Int) (o : Option Addr) (N c : Nat) (l : List Po) (w : World) (h : BkW w o N c l) (hb : ¬ StP acc l cl m) :
    Calls Try.prog 20 #[bookV acc o N c cl, .int .i64 m] w fun e w' => e = .returned (.tuple #[.slice none 0 0, .int .i64 310]) ∧ Below w.heap.size w w' := by
  have BW := Lib.hid h
  have CV := Lib.hid (fun W (h : BkW W o N c l) => rValid_any acc cl o N c l W h.1 h.2.2.2.2)
  have CB := Lib.hid (fun W (h : BkW W o N c l) => rBalance_any acc cl 0 m o N c l W h)
  rw [if_neg (fun g => hb g.1)] at CB
  have HA := Lib.hid (fun (h : vd acc l cl = true) => (show 2 ≤ acc ∧ acc ≤ 12 from ⟨(vd_iff.1 h).1.1, (vd_iff.1 h).1.2.1⟩))
  obtain ⟨G, hG⟩ : ∃ G, vd acc l cl = G := ⟨_, rfl⟩
  rw [hG] at CV HA
  clear hG h hb
  go_enter Try.func20, Try.ntmps20
  go_upto_region 1 with (fail)
  refine wp_named fun w1 hq => ?_
  obtain ⟨bA, eA⟩ : ∃ b, b = w.heap.size := ⟨_, rfl⟩
  have RA := Lib.hid (show Row w1 bA 24 [.int .i64 acc, .slice o N c, .int .i64 cl] from by rw [hq, eA]; exact Row.new w _ _)
  have BB := Lib.hid (show Below w.heap.size w w1 from by rw [hq]; (repeat' first | exact Below.refl _ _ | assumption | (refine below_drewN ?_ _) | (refine Below.drew ?_) | (refine Below.alloc ?_ ?_ _) | (refine Below.setCell ?_ ?_ _) | (simp; done) | (simp; omega) | omega))
  replace BW := Lib.hid (BW.out.next BB.out)
  rw [← eA]
  clear hq eA
  have a0 := RA.out.cell 0
  have a1 := RA.out.cell 1
  have a2 := RA.out.cell 2
  have la := RA.out.lt
  simp only [List.getElem?_cons_zero, List.getElem?_cons_succ] at a0 a1 a2
  go_wp2_with fail
  with_reducible refine Calls.mono (CV.out _ BW.out) ?_
  rintro e w2 ⟨rfl, hb⟩
  replace RA := Lib.hid (RA.out.next hb)
  replace BW := Lib.hid (BW.out.next hb)
  replace BB := Lib.hid (Below.andThen BB.out hb)
  clear hb CV
  clear a0 a1 a2 la
  cases G with
  | false =>
    go_wp2_with fail
    go_ret2
    exact ⟨rfl, BB.out⟩
  | true =>
    obtain ⟨g1, g2⟩ := HA.out rfl
    have a0 := RA.out.cell 0
    have a1 := RA.out.cell 1
    have a2 := RA.out.cell 2
    have la := RA.out.lt
    simp only [List.getElem?_cons_zero, List.getElem?_cons_succ] at a0 a1 a2
    go_wp2_with fail
    refine wp_loop_rounds 1 ?_
    rw [rounds_succ]
    have g3 : (0 : Int) < acc := by omega
    go_wp2_with fail
    with_reducible refine Calls.mono (CB.out _ BW.out) ?_
    rintro e w3 ⟨rfl, hb⟩
    replace BB := Lib.hid (Below.andThen BB.out hb)
    clear hb CB
    clear a0 a1 a2 la
    go_wp2_with fail
    go_ret2
    exact ⟨rfl, BB.out⟩
set_option maxRecDepth 100000 in
set_option maxHeartbeats 8000000 in
theorem rstatement_ok (A : Nat) (acc cl m : Int) (hA : acc = A) (o : Option Addr) (N c : Nat) (l : List Po) (w : World) (h : BkW w o N c l) (hb : StP acc l cl m) :
    Calls Try.prog 20 #[bookV acc o N c cl, .int .i64 m] w fun e w' => ∃ v, e = .returned (.tuple #[v, .int .i64 0]) ∧ Sq.Own intE 3 w' w.heap.size v ((List.range A).map (sT l m)) ∧ Below w.heap.size w w' := by
  have BW := Lib.hid h
  have CV := Lib.hid (fun W (h : BkW W o N c l) => rValid_any acc cl o N c l W h.1 h.2.2.2.2)
  rw [hb.1] at CV
  have hV := (vd_iff.1 hb.1).1
  have g1 := hV.1
  have g2 := hV.2.1
  have CB := Lib.hid (fun (k : Nat) (hk : k < A) W (h : BkW W o N c l) => (show Calls Try.prog 22 #[bookV acc o N c cl, .int .i64 k, .int .i64 m] W fun e w' => e = .returned (.tuple #[.int .i64 (sT l m k), .int .i64 0]) ∧ Below W.heap.size W w' from by
    have := rBalance_any acc cl k m o N c l W h
    rw [if_pos ⟨hb, by omega, by omega⟩, Int.toNat_natCast] at this
    exact this))
  have HA := Lib.hid hA
  clear h hb hV hA
  generalize sT l m = f at *
  go_enter Try.func20, Try.ntmps20
  go_upto_region 1 with (fail)
  refine wp_named fun w1 hq => ?_
  obtain ⟨bA, eA⟩ : ∃ b, b = w.heap.size := ⟨_, rfl⟩
  have RA := Lib.hid (show Row w1 bA 24 [.int .i64 acc, .slice o N c, .int .i64 cl] from by rw [hq, eA]; exact Row.new w _ _)
  have BB := Lib.hid (show Below w.heap.size w w1 from by rw [hq]; (repeat' first | exact Below.refl _ _ | assumption | (refine below_drewN ?_ _) | (refine Below.drew ?_) | (refine Below.alloc ?_ ?_ _) | (refine Below.setCell ?_ ?_ _) | (simp; done) | (simp; omega) | omega))
  replace BW := Lib.hid (BW.out.next BB.out)
  rw [← eA]
  clear hq eA
  have a0 := RA.out.cell 0
  have a1 := RA.out.cell 1
  have a2 := RA.out.cell 2
  have la := RA.out.lt
  simp only [List.getElem?_cons_zero, List.getElem?_cons_succ] at a0 a1 a2
  go_wp2_with fail
  with_reducible refine Calls.mono (CV.out _ BW.out) ?_
  rintro e w2 ⟨rfl, hb⟩
  replace RA := Lib.hid (RA.out.next hb)
  replace BW := Lib.hid (BW.out.next hb)
  replace BB := Lib.hid (Below.andThen BB.out hb)
  clear hb CV
  clear a0 a1 a2 la
  go_wp2_with fail
  go_loopw [6, 7] (fun v jv wr => ∃ k : Nat, jv = .int .i64 k ∧ k ≤ A ∧ Sq.Own intE 3 wr w2.heap.size v ((List.range k).map f) ∧ Below w2.heap.size w2 wr) (fun _ jv _ => A - (intOf jv).toNat)
  case atStart => exact ⟨0, rfl, Nat.zero_le _, own_nil _ _ _, Below.refl _ _⟩
  case round =>
    obtain ⟨k, rfl, hk, hO, hB⟩ := hrel
    obtain ⟨v, rfl⟩ : ∃ v, v = u6 := ⟨_, rfl⟩
    rename World => wr
    replace RA := Lib.hid (RA.out.next hB)
    replace BW := Lib.hid (BW.out.next hB)
    have BB2 := Lib.hid (Below.andThen BB.out hB)
    have OW := Lib.hid hO
    have HB := Lib.hid hB
    have HK := Lib.hid hk
    clear hB hO
    have a0 := RA.out.cell 0
    have a1 := RA.out.cell 1
    have a2 := RA.out.cell 2
    have la := RA.out.lt
    simp only [List.getElem?_cons_zero, List.getElem?_cons_succ] at a0 a1 a2
    by_cases hlt : k < A
    · have i1 : (k : Int) < acc := by rw [HA.out]; omega
      go_wp2_with fail
      with_reducible refine Calls.mono (CB.out k hlt _ BW.out) ?_
      rintro e w3 ⟨rfl, hb⟩
      replace OW := Lib.hid (OW.out.next hb)
      replace HB := Lib.hid (Below.andThen HB.out hb)
      clear hb
      clear a0 a1 a2 la
      have hA12 : A ≤ 12 := by have := HA.out; omega
      go_wp2_with (at_builtin; refine wpList_append tyI rfl _ _ rfl w2.heap.size v ((List.range k).map f) rfl (OW.out.next ((Below.refl _ _).alloc (Nat.le_refl _) _)) (some ⟨w3.heap.size, 0, none⟩) 1 1 [f k] rfl rfl (fun h => by cases h) (sl_new intE w3 _ [f k]) (by simp; omega) (by have := HB.out.size; simp; omega) ?_; intro v4 w4 ho hg; have HO4 := Lib.hid (And.intro ho (Below.grown (HB.out.alloc HB.out.size _) hg (by have := HB.out.size; simp; omega) OW.out.block)); clear ho hg)
      go_roundw
      case rel => exact ⟨k + 1, by go_num, by omega, by rw [range_snoc]; exact HO4.out.1, HO4.out.2⟩
      case measure => first | (simp [intOf]; done) | (simp [intOf]; omega)
    · obtain rfl : k = A := by omega
      have i1 : ¬ (k : Int) < acc := by rw [HA.out]; omega
      go_wp2_with fail
      go_ret2
      exact ⟨v, rfl, OW.out.lower BB.out.size, BB2.out⟩
theorem own_shape {α : Type} {E : El α} {e : TypeId} {w : World} {B0 : Nat} {v : Value} {l : List α} (h : Sq.Own E e w B0 v l) : ∃ o c, v = .slice o l.length c := by
  obtain ⟨o, c, e, _⟩ := h.vw
  exact ⟨o, c, e⟩
theorem rStatement_u (acc cl m : Int) (o : Option Addr) (N c : Nat) (l : List Po) (w : World) (h : BkW w o N c l) :
    Calls Try.prog 20 #[bookV acc o N c cl, .int .i64 m] w fun e w' => InEr w.heap.size (stB acc l cl m) e w' ∧ Below w.heap.size w w' := by
  unfold stB
  by_cases hb : StP acc l cl m
  · have hV := (vd_iff.1 hb.1).1
    have g1 := hV.1
    rw [if_pos hb]
    refine (rstatement_ok acc.toNat acc cl m (by omega) o N c l w h hb).mono ?_
    rintro e w' ⟨v, rfl, hO, hB⟩
    obtain ⟨o', c', rfl⟩ := own_shape hO
    exact ⟨⟨o', _, c', rfl, rfl, hO⟩, hB⟩
  · rw [if_neg hb]
    refine (rstatement_bad acc cl m o N c l w h hb).mono ?_
    rintro e w' ⟨rfl, hB⟩
    exact ⟨⟨none, 0, 0, rfl, rfl, own_nil _ _ _⟩, hB⟩
theorem Statement_u (acc cl m : Int) (o : Option Addr) (N c : Nat) (l : List Po) (w : World) (hd : ∀ p ∈ l, inI p.day) (h : BkW w o N c l) :
    Calls Try.prog 19 #[bookV acc o N c cl, .int .i64 m] w fun e w' => InEr w.heap.size (stB acc l cl m) e w' ∧ Below w.heap.size w w' := by
  refine (Statement_any acc cl m o N c l w h.1 h.2.1 h.2.2.1 h.2.2.2.2 hd).mono ?_
  rintro e w' ⟨⟨h1, h2⟩, hB⟩
  refine ⟨?_, hB⟩
  unfold stB
  by_cases hb : StP acc l cl m
  · rw [if_pos hb]
    obtain ⟨o', c', rfl, hO⟩ := h1 hb
    exact ⟨o', _, c', rfl, by simp, hO⟩
  · rw [if_neg hb]
    obtain rfl := h2 hb
    exact ⟨none, 0, 0, rfl, rfl, own_nil _ _ _⟩
theorem Owed_u (acc cl m : Int) (o : Option Addr) (N c : Nat) (l : List Po) (w : World) (h : BkW w o N c l) :
    Calls Try.prog 24 #[bookV acc o N c cl, .int .i64 m] w fun e w' => InEr w.heap.size (owB acc l cl m) e w' ∧ Below w.heap.size w w' := by
  refine (Owed_any acc cl m o N c l w h.1 h.2.1 h.2.2.1 h.2.2.2.2).mono ?_
  rintro e w' ⟨⟨h1, h2⟩, hB⟩
  refine ⟨?_, hB⟩
  unfold owB
  by_cases hb : OwP acc l cl m
  · rw [if_pos hb]
    obtain ⟨o', c', rfl, hO⟩ := h1 hb
    exact ⟨o', _, c', rfl, by simp, hO⟩
  · rw [if_neg hb]
    obtain rfl := h2 hb
    exact ⟨none, 0, 0, rfl, rfl, own_nil _ _ _⟩
end Bk
end Go.Proofs.Ytnhlhoijajhcjaa
