/- sum: the effects of the chosen postings. -/
import Derived.Test.YtnhlhoijajhcjaaDoorBkO
import Derived.Test.YtnhlhoijajhcjaaDoorRound
import Derived.RangeFuncBox
set_option linter.unusedVariables false
set_option linter.unusedSimpArgs false
set_option linter.unnecessarySimpa false
namespace Go.Proofs.YtnhlhoijajhcjaaDoor
open Go.RowKit Go.Shelf
attribute [local go_sem] Oper.semAt_some
namespace Bk
open Sq
def toN (m : Int) (p : Po) : Bool := decide (p.day.tdiv 30 = m)
theorem flt_prefix_len {q : Po → Bool} {l : List Po} {pre : List (Nat × Po)} (h : pre <+: flt q l l.length) : pre.length ≤ l.length := Nat.le_trans h.length_le (flt_len q l l.length)
theorem sum_small {acc : Int} {l : List Po} {pre : List (Nat × Po)} {q : Po → Bool} (hf : ∀ p ∈ l, FmP acc p) (hl : l.length ≤ 900) (h : pre <+: flt q l l.length) (t : Nat) : -1000000000000 ≤ sumP pre t ∧ sumP pre t ≤ 1000000000000 := by
  have h1 := sumP_bd pre (fun x hx => by
    have h2 := flt_mem.1 (h.subset hx)
    rw [h2.2.1]
    exact hf _ (at_mem h2.1)) t
  have := flt_prefix_len h
  omega
set_option maxRecDepth 100000 in
set_option maxHeartbeats 4000000 in
theorem sum_any (acc m : Int) (ha : acc ≤ 12) (bn : Nat) (o : Option Addr) (N c : Nat) (l : List Po) (w : World) (hl : l.length = N) (hN : N ≤ 900) (hf : ∀ p ∈ l, FmP acc p) (hd : ∀ p ∈ l, inI p.day) (hb : Has1 w bn (.int .i64 m)) (hS : Sl poE w o l) :
    Calls Tryd.prog 41 #[.slice o N c, fnC 42 #[ptV bn]] w fun e w' => e = .returned (.agg (balC (sumP (flt (toN m) l l.length))).toArray) ∧ Below w.heap.size w w' := by
  refine (callsIn_wide (n := 3)).1 ?_
  refine callsIn_of_wp_marks Tryd.func41 rfl trivial ?_
  simp only [Tryd.ntmps41, List.size_toArray, List.length_cons, List.length_nil, Nat.reduceAdd, Nat.reduceSub, Array.replicate_succ, Array.replicate_zero, List.push_toArray, List.append_toArray, List.nil_append, List.cons_append]
  gi_wp2_with (refine ⟨trivial, ?_⟩; gi_at_call 46; refine (callsIn_wide.2 (choose_any _ _ _ _ _ _)).mono ?_; rintro e w' ⟨rfl, rfl⟩)
  refine wpIn_named fun w3 e3 => ?_
  obtain ⟨br, ebr⟩ : ∃ b, b = w.heap.size := ⟨_, rfl⟩
  obtain ⟨bs, ebs⟩ : ∃ b, b = w.heap.size + 1 := ⟨_, rfl⟩
  obtain ⟨be, ebe⟩ : ∃ b, b = w.heap.size + 1 + 1 := ⟨_, rfl⟩
  obtain ⟨bi, ebi⟩ : ∃ b, b = w.heap.size + 1 + 1 + 1 := ⟨_, rfl⟩
  obtain ⟨R0, R1, R2, R3, B3, S3⟩ := rows4 w 82 82 77 85 (balC fun _ => 0) (balC fun _ => 0) [.slice o N c] [fnC 42 #[ptV bn]] w3 e3
  rw [← ebi, ← ebe, ← ebs, ← ebr]
  rw [← ebr] at R0
  rw [← ebs] at R1
  rw [← ebe] at R2
  rw [← ebi] at R3
  clear e3
  have HE := Lib.hid (show br = w.heap.size ∧ bs = w.heap.size + 1 ∧ be = w.heap.size + 1 + 1 ∧ bi = w.heap.size + 1 + 1 + 1 ∧ w3.heap.size = w.heap.size + 4 from ⟨ebr, ebs, ebe, ebi, S3⟩)
  clear ebr ebs ebe ebi S3
  have HF := Lib.hid hf
  have S12 := Lib.hid (fun g => (show (Tryd.prog.info? 82).map (·.size) = some (balC g).toArray.size by rw [infoBal, List.size_toArray, balC_len]))
  have HL := Lib.hid hl
  refine wpIn_rangeFunc_cellY rfl (by omega) (gf := 69) (lb := #[ptV be, ptV bi]) rfl trivial (enters_of Tryd.func69 (by kernel_rfl) rfl) (w3.heap.size + 2) (by omega)
    (seqMon bn (toN m) (fun W => Has1 W bn (.int .i64 m)) (fun p hp W h => isMon_any bn m p W h (hd p hp)) 2 (by omega) o N c hl (by omega) be bi (w3.heap.size + 2)) (fun o o' => by simp) (fun _ => rfl)
    (fun pre W => Row W bs 82 (balC (sumP pre)) ∧ Row W br 82 (balC fun _ => 0) ∧ Row W be 77 [.slice o N c] ∧ Row W bi 85 [fnC 42 #[ptV bn]] ∧ Below w.heap.size w W)
    (fun _ _ _ => False)
    (fun s X Y row ⟨h0, h1, h2, h3, hb⟩ hg hrow => ⟨keep_row h0 hg (fun r e => by have := (hrow r e).1; have := HE.out; omega), keep_row h1 hg (fun r e => by have := (hrow r e).1; have := HE.out; omega), keep_row h2 hg (fun r e => by have := (hrow r e).1; have := HE.out; omega), keep_row h3 hg (fun r e => by have := (hrow r e).1; have := HE.out; omega), hb.grown hg hb.size (fun k e => by have := (hrow k e).1; have := HE.out; omega)⟩)
    (fun c s X Y row h _ _ => h)
    (fun s X Y ⟨h0, h1, h2, h3, hb⟩ hg _ => ⟨keep_row h0 hg (fun r e => by cases e; have := HE.out; omega), keep_row h1 hg (fun r e => by cases e; have := HE.out; omega), keep_row h2 hg (fun r e => by cases e; have := HE.out; omega), keep_row h3 hg (fun r e => by cases e; have := HE.out; omega), hb.grown hg hb.size (fun k e => by cases e; have := HE.out; omega)⟩)
    (fun c s X Y h _ _ => h)
    (fun s X h => ⟨⟨h.2.2.1.lt, h.2.2.1.cell 0, h.2.2.2.1.lt, h.2.2.2.1.cell 0, hS.next h.2.2.2.2⟩, has1 hb h.2.2.2.2⟩)
    ⟨R1, R0, R2, R3, B3⟩
    (fun x => .cells x.2.v.cells 27)
    (fun x b => { tmps := #[.slice o N c, fnC 42 #[ptV bn], undef, undef, ptV br, ptV bs, undef, ptV b, .slice o N c, fnC 42 #[ptV bn], fnC 69 #[ptV be, ptV bi], .int .i64 (x.1 : Int), x.2.v, undef, undef, undef, undef, undef], defers := [] })
    ?assign ?body ?done ?stop
  case assign =>
    intro lid x W K _ hK
    obtain ⟨i, kind, day, deb, cre, amt, sub, of⟩ := x
    unfold Po.v at hK
    dsimp only at hK
    simp only [encP, Po.v]
    gi_wp2
    exact hK
  case body =>
    rintro lid pre x W b ⟨h0, h1, h2, h3, hB⟩ hpre hblk hb1 hb2
    have hx := flt_mem.1 (hpre.subset (show x ∈ pre ++ [x] by simp))
    have hfx : FmP acc x.2 := by rw [hx.2.1]; exact HF.out _ (at_mem (by have := hx.1; omega))
    have hsm := Lib.hid (fun t => sum_small HF.out (by rw [HL.out]; exact hN) (List.IsPrefix.trans (List.prefix_append pre [x]) hpre) t)
    obtain ⟨i, p⟩ := x
    dsimp only at hfx hblk
    have CE := Lib.hid (fun w => effect_any p w (by have := hfx.2.2.2.1; omega) (by have := hfx.2.2.1; omega) (by have := hfx.2.2.2.2.2.1; omega))
    have CP := Lib.hid (fun w => plus_any (sumP pre) (eff p) w (fun t _ => hsm.out t) (fun t _ => by have := eff_bd hfx t; omega))
    have HSUM := Lib.hid (show (balC fun t => sumP pre t + eff p t) = balC (sumP (pre ++ [(i, p)])) from balC_ext fun t _ => (sumP_snoc pre (i, p) t).symm)
    rw [HSUM.out] at CP
    have HX := Lib.hid (show W.heap[b]? = some (.cells p.v.cells 27 (0, 0)) from hblk)
    have hbl := (Array.getElem?_eq_some_iff.1 hblk).1
    have S7 : (Tryd.prog.info? 27).map (·.size) = some p.v.cells.size := by rw [show (Tryd.prog.info? 27).map (·.size) = some 7 by kernel_rfl]; rfl
    have SA := S12.out (sumP pre)
    have SB := S12.out (sumP (pre ++ [(i, p)]))
    refine wpIn_block ?_
    refine wpIn_region_kin_tail (m := 4) (by kernel_rfl) (by kernel_rfl) (fun ⟨a, w', h⟩ => h) (by kernel_rfl) W.heap.size 0 (by simp) (fun hk => ?_)
    simp only [List.take_succ_cons, List.take_zero, List.drop_succ_cons, List.drop_zero]
    refine wpQuiet_load_row rfl _ _ rfl bs rfl _ _ _ _ (fun w' hw' => by obtain ⟨k, rfl⟩ := hw'; exact h0.next k.below) Tryd.underlying82 rfl SA ?_
    refine wpQuiet_load_row rfl _ _ rfl b rfl _ p.v.cells _ _ (fun w' hw' => by obtain ⟨k, rfl⟩ := hw'; exact (k.below.block _ hbl).trans HX.out) Tryd.underlying27 rfl S7 ?_
    have KK := Lib.hid (And.intro h0 (And.intro h1 (And.intro h2 (And.intro h3 (And.intro hB hbl)))))
    clear hk h0 h1 h2 h3 hB hbl HX hx hfx hpre hblk SA S7
    obtain ⟨kind, day, deb, cre, amt, sub, of⟩ := p
    unfold Po.v at CE
    dsimp only at CE
    simp only [Act.put, List.setIfInBounds_toArray, List.set_cons_zero, List.set_cons_succ, Po.v, Value.cells]
    go_big_quiet_step ((go_at_call 50; exact Calls.kin (CE.out _)))
    clear CE
    go_big_quiet_step ((go_at_call 49; exact Calls.kin (CP.out _)))
    clear CP
    refine wpQuiet_nil ?_
    intro W2 hb
    obtain ⟨h0, h1, h2, h3, hB, hbl⟩ := KK.out
    refine wpList_store_row rfl _ _ _ rfl bs (balC (sumP (pre ++ [(i, ⟨kind, day, deb, cre, amt, sub, of⟩)]))).toArray rfl rfl _ _ (h0.next hb) SB (by rw [List.size_toArray, List.size_toArray, balC_len, balC_len]) (balC_one _) ?_
    have R2 := h0.next hb
    refine ⟨(below_keeps hb).trans (grown_keeps R2 (setRow_grown _ _ _)), ?_, ?_, ?_, ?_, ?_, ?_⟩
    · rw [setRow_other _ _ _ _ (by have := HE.out; omega)]
      exact hb.block _ (by omega)
    · exact R2.setRow _
    · exact (setRow_other _ _ _ _ (by have := HE.out; omega)).trans (h1.next hb)
    · exact (setRow_other _ _ _ _ (by have := HE.out; omega)).trans (h2.next hb)
    · exact (setRow_other _ _ _ _ (by have := HE.out; omega)).trans (h3.next hb)
    · exact (Below.andThen hB hb).trans ⟨rfl, rfl, rfl, by simp, fun k hk => setRow_other _ _ k _ (by have := HE.out; omega)⟩
  case done =>
    rintro W ⟨h0, h1, h2, h3, hB⟩ hK
    have SA := S12.out (sumP (flt (toN m) l l.length))
    have SB := S12.out fun _ => 0
    obtain ⟨g, hg⟩ : ∃ g, sumP (flt (toN m) l l.length) = g := ⟨_, rfl⟩
    rw [hg] at SA h0
    have HG := Lib.hid hg
    have SZ := Lib.hid SA
    have RS := Lib.hid h0
    have RB := Lib.hid h1
    have L2 := Lib.hid (show (balC fun _ => 0).toArray.size = (balC g).toArray.size by rw [List.size_toArray, List.size_toArray, balC_len, balC_len])
    have O2 := Lib.hid (balC_one g)
    have KK := Lib.hid (And.intro hB hK)
    clear h0 h1 h2 h3 hB hK SA SB hg
    gi_wp2_with (first | (refine wpListIn_load_row rfl _ _ rfl bs rfl 82 (balC g).toArray (0, 0) _ RS.out Tryd.underlying82 rfl SZ.out ?_) | (refine wpListIn_store_row rfl _ _ _ rfl br (balC g).toArray rfl rfl 82 _ RB.out SZ.out L2.out O2.out ?_))
    obtain ⟨hB, hK⟩ := KK.out
    have R4 := RB.out.setRow (balC g)
    have K4 : (W.setRow br (balC g).toArray).heap[w3.heap.size]? = some (.deferred (some [])) := (setRow_other W br w3.heap.size (balC g).toArray (by have := HE.out; omega)).trans hK
    have B4 : Below w.heap.size w (W.setRow br (balC g).toArray) := hB.trans ⟨rfl, rfl, rfl, by simp, fun k hk => setRow_other _ br k _ (by have := HE.out; omega)⟩
    clear hK KK RB RS
    generalize W.setRow br (balC g).toArray = W4 at *
    refine ⟨by simp, .inl ⟨_, _, rfl, run_takeDeferred K4, ?_⟩⟩
    have hr' : Row (W4.putObj w3.heap.size (.deferred none)) br 82 (balC g) := (World.putObj_heap_other (by have := HE.out; omega)).trans R4
    exact ⟨.agg (balC g).toArray, results_cell_row rfl _ _ br 82 (balC g).toArray (0, 0) _ rfl hr' Tryd.underlying82 rfl SZ.out, by rw [HG.out], B4.trans (belowK_b (w := w) (Nat.le_refl _) W4 _ _ _ (by have := HE.out; omega) K4 rfl rfl)⟩
  case stop =>
    rintro c pre W hpre h
    exact h.elim
end Bk
end Go.Proofs.YtnhlhoijajhcjaaDoor
