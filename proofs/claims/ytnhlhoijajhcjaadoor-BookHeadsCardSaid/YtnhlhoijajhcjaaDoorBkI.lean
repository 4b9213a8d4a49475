/- Valid, where all postings are formed. -/
import Derived.Test.YtnhlhoijajhcjaaDoorBkH
import Derived.Sort.CutIn
set_option linter.unusedVariables false
set_option linter.unusedSimpArgs false
set_option linter.unnecessarySimpa false
namespace Go.Proofs.YtnhlhoijajhcjaaDoor
open Go.RowKit Go.Shelf
attribute [local go_sem] Oper.semAt_some
namespace Bk
open Sq
def isBack (p : Po) : Bool := decide (p.kind = 2)
set_option maxRecDepth 100000 in
set_option maxHeartbeats 4000000 in
theorem valid_rest (acc cl : Int) (o : Option Addr) (N c : Nat) (l : List Po) (w : World) (hl : l.length = N) (hc : N ≤ c) (hc2 : c ≤ 9223372036854775807) (h : BaseP acc N cl) (hf : l.all (fm acc) = true) (hS : Sl poE w o l) :
    Calls Tryd.prog 24 #[bookV acc o N c cl] w fun e w' => e = .returned (.bool (vd acc l cl)) ∧ Below w.heap.size w w' := by
  have hb := h
  obtain ⟨h1, h2, h3, h4, h5⟩ := h
  have d1 : ¬ acc < 2 := by omega
  have d2 : ¬ 12 < acc := by omega
  have d3 : ¬ cl < 0 := by omega
  have d4 : ¬ 12 < cl := by omega
  have d5 : ¬ (200 : Int) < N := by omega
  have hfm : ∀ p ∈ l, FmP acc p := fun p hp => fm_iff.1 (List.all_eq_true.1 hf p hp)
  have HN := Lib.hid (show N ≤ 1000000 by omega)
  have CA := Lib.hid (fun b W hb (hS : Sl poE W o l) => all_any b acc o N c l W hb hl (by unfold maxLen; omega) hS)
  rw [hf] at CA
  have CS := Lib.hid (fun W (hS : Sl poE W o l) => sorted_any o N c l W hl (by omega) (fun p hp => by have := (hfm p hp).2.1; omega) hS)
  have CT := Lib.hid (fun i hi hk W (hS : Sl poE W o l) => takesBack_any acc h2 i o N c l W hl (by omega) hc hc2 hfm hi hk hS)
  have HV := Lib.hid (show vd acc l cl = true ↔ (∀ i, i < l.length → (at' l i).kind = 2 → TbP l i) ∧ Srt l from vd_iff.trans (vd_split.trans ⟨fun h => h.2.2, fun h => ⟨by rw [hl]; exact hb, hf, h.1, h.2⟩⟩))
  have HL := Lib.hid hl
  have SL := Lib.hid hS
  obtain ⟨F, hF⟩ : ∃ F, vd acc l cl = F := ⟨_, rfl⟩
  rw [hF] at HV ⊢
  clear h1 h2 h3 h4 h5 hf hS hb hfm hF
  refine (callsIn_wide (n := 3)).1 ?_
  refine callsIn_of_wp_marks Tryd.func24 rfl trivial ?_
  simp only [Tryd.ntmps24, List.size_toArray, List.length_cons, List.length_nil, Nat.reduceAdd, Nat.reduceSub, Array.replicate_succ, Array.replicate_zero, List.push_toArray, List.append_toArray, List.nil_append, List.cons_append]
  gi_upto_region 4 with (fail)
  refine wpIn_named fun w1 hq => ?_
  obtain ⟨bB, ebB⟩ : ∃ b, b = w.heap.size := ⟨_, rfl⟩
  obtain ⟨br, ebr⟩ : ∃ b, b = w.heap.size + 1 := ⟨_, rfl⟩
  obtain ⟨bE, ebE⟩ : ∃ b, b = w.heap.size + 1 + 1 := ⟨_, rfl⟩
  obtain ⟨r0, r1, r2, hB, hs⟩ := rows3 w 24 4 77 [.int .i64 acc, .slice o N c, .int .i64 cl] [.bool false] [.slice o N c] w1 hq
  have HS := Lib.hid (show w.heap.size ≤ br ∧ br < w1.heap.size ∧ br ≠ bE by omega)
  rw [← ebE, ← ebr, ← ebB]
  rw [← ebB] at r0
  rw [← ebr] at r1
  rw [← ebE] at r2
  have BB := Lib.hid hB
  replace SL := Lib.hid (SL.out.next hB)
  have HB1 := Lib.hid (show Has1 w1 bB (.int .i64 acc) from ⟨r0.lt, r0.cell 0⟩)
  have R1 := Lib.hid r1
  have RE := Lib.hid r2
  have cE := r2.cell 0
  have lE := r2.lt
  simp only [List.getElem?_cons_zero] at cE
  clear hq ebB ebr ebE hB r0 r1 r2 d1 d2 d3 d4 d5 hs
  gi_wp2
  refine ⟨trivial, ?_⟩
  refine (callsIn_wide.2 (CA.out _ _ HB1.out SL.out)).mono ?_
  rintro e w2 ⟨rfl, hb⟩
  replace R1 := Lib.hid (R1.out.next hb)
  replace RE := Lib.hid (RE.out.next hb)
  replace SL := Lib.hid (SL.out.next hb)
  replace BB := Lib.hid (Below.andThen BB.out hb)
  have HS2 := Lib.hid (show br < w2.heap.size from Nat.lt_of_lt_of_le HS.out.2.1 hb.size)
  clear hb cE lE HB1
  have cE := RE.out.cell 0
  have lE := RE.out.lt
  simp only [List.getElem?_cons_zero] at cE
  gi_wp2_with (refine ⟨trivial, ?_⟩; gi_at_call 46; refine (callsIn_wide.2 (choose_any _ _ _ _ _ _)).mono ?_; rintro e w' ⟨rfl, rfl⟩)
  clear cE lE
  refine wpIn_named fun w3 e3 => ?_
  obtain ⟨be, ebe⟩ : ∃ b, b = w2.heap.size := ⟨_, rfl⟩
  obtain ⟨bi, ebi⟩ : ∃ b, b = w2.heap.size + 1 := ⟨_, rfl⟩
  obtain ⟨R2, R3, B3, S3⟩ := rows2 w2 77 85 [.slice o N c] [fnC 54 #[]] w3 e3
  rw [← ebi, ← ebe]
  rw [← ebe] at R2
  rw [← ebi] at R3
  have hY0 : YW o N c l be bi (fnC 54 #[]) w3 := ⟨R2.lt, R2.cell 0, R3.lt, R3.cell 0, SL.out.next B3⟩
  replace R1 := Lib.hid (R1.out.next B3)
  replace RE := Lib.hid (RE.out.next B3)
  replace SL := Lib.hid (SL.out.next B3)
  replace BB := Lib.hid (Below.andThen BB.out B3)
  have HE := Lib.hid (show br < w3.heap.size ∧ w.heap.size ≤ br ∧ br ≠ bE from ⟨by have := HS2.out; omega, HS.out.1, HS.out.2.2⟩)
  clear e3 ebe ebi R2 R3 B3 S3 HS HS2
  have hbr := HE.out.1
  refine wpIn_rangeFunc_cellN rfl (by omega) (gf := 69) (lb := #[ptV be, ptV bi]) rfl trivial (enters_of Tryd.func69 (by kernel_rfl) rfl) (w3.heap.size + 2) (by omega)
    (seqBack 0 isBack (fun W => True) (fun p _ W h => isBack_any p W) 2 (by omega) o N c hl HN.out be bi (w3.heap.size + 2)) (fun o o' => by simp) (fun _ => rfl)
    (fun pre W => Below w3.heap.size w3 W ∧ ∀ x ∈ pre, TbP l x.1)
    (fun c pre W => c = .ret ∧ (∃ x, x ∈ pre ∧ ¬ TbP l x.1) ∧ Row W br 4 [.bool false] ∧ Below w.heap.size w W)
    (OwnFrom.and (ownFrom_below (Nat.le_refl _) (Nat.le_refl _)) (fun s X Y row hs _ _ => hs))
    (fun c s X Y row ⟨hc, hx, hr, hb⟩ hg hrow => ⟨hc, hx, keep_row hr hg (fun r e => by have := (hrow r e).1; omega), hb.grown hg hb.size (fun k e => by have := (hrow k e).1; have := HE.out; omega)⟩)
    (fun s X Y ⟨h1, h2⟩ hg _ => ⟨h1.grown hg h1.size (fun k e => by cases e; omega), h2⟩)
    (fun c s X Y ⟨hc, hx, hr, hb⟩ hg _ => ⟨hc, hx, keep_row hr hg (fun r e => by cases e; omega), hb.grown hg hb.size (fun k e => by cases e; have := HE.out; omega)⟩)
    (fun s X h => ⟨hY0.next h.1, trivial⟩)
    ⟨Below.refl _ _, fun x hx => by cases hx⟩
    (fun x => { tmps := #[bookV acc o N c cl, ptV bB, ptV br, ptV bE, .int .i64 (x.1 : Int), ptV bB, .int .i64 acc, .bool false, .bool false, ptV bB, .int .i64 acc, .bool false, .bool false, .bool false, .pointer (some ⟨bB, 2, none⟩), .int .i64 cl, .bool false, .bool false, .bool false, .pointer (some ⟨bB, 2, none⟩), .int .i64 cl, .bool false, .bool false, .bool false, .pointer (some ⟨bB, 1, none⟩), .slice o N c, .int .i64 (N : Int), .bool false, .bool false, .pointer (some ⟨bB, 1, none⟩), .slice o N c, .slice o N c, .func (.func 52) #[] #[ptV bB], .bool true, .bool false, .slice o N c, fnC 69 #[ptV be, ptV bi], .int .i64 (x.1 : Int), x.2.v, undef, undef, undef, undef, undef, undef], defers := [] })
    ?assign ?body ?done ?stop
  case assign =>
    intro lid x W K _ hK
    simp only [encP]
    gi_wp2
    exact hK
  case body =>
    rintro lid pre x W ⟨hB, hall⟩ hpre hBs
    obtain ⟨hx1, hx2, hx3⟩ := flt_mem.1 (hpre.subset (show x ∈ pre ++ [x] by simp))
    obtain ⟨k, p⟩ := x
    dsimp only at hx1 hx2 hx3
    subst hx2
    have hk2 : (at' l k).kind = 2 := of_decide_eq_true hx3
    have CT1 := Lib.hid (CT.out k (by rw [← HL.out]; exact hx1) hk2 W (SL.out.next hB))
    have HB := Lib.hid hB
    have HA := Lib.hid hall
    have HP := Lib.hid hpre
    have KOb : ∀ {X Y : World}, Below X.heap.size X Y → KeepsOthers X Y := fun h => ⟨h.size, fun k o hk _ => (h.block k (Array.getElem?_eq_some_iff.1 hk).1).trans hk⟩
    have cE := (RE.out.next hB).cell 0
    have lE := (RE.out.next hB).lt
    simp only [List.getElem?_cons_zero] at cE
    have HBS := Lib.hid hBs
    clear hB hall hpre hx1 hx3 hk2 hBs
    generalize at' l k = p at *
    by_cases hT : TbP l k
    · rw [decide_eq_true hT] at CT1
      have HT := Lib.hid hT
      clear hT
      gi_wp2
      refine ⟨trivial, ((callsIn_wide.2 CT1.out).inRound lid).mono ?_⟩
      rintro e W' ⟨rfl, hb'⟩
      clear cE lE
      gi_wp2
      refine ⟨KOb hb', hb'.block _ HBS.out, Below.andThen HB.out hb', fun y hy => ?_⟩
      rcases List.mem_append.1 hy with h | h
      · exact HA.out y h
      · rw [List.mem_singleton.1 h]
        exact HT.out
    · rw [decide_eq_false hT] at CT1
      have HT := Lib.hid hT
      clear hT
      gi_wp2
      refine ⟨trivial, ((callsIn_wide.2 CT1.out).inRound lid).mono ?_⟩
      rintro e W' ⟨rfl, hb'⟩
      have Q1 := (R1.out.next HB.out).next hb'
      have q0 := Q1.cell 0
      have l0 := Q1.lt
      have f0 := Q1.frozen 0
      simp only [List.getElem?_cons_zero] at q0
      have KK := Lib.hid (And.intro Q1 hb')
      clear cE lE Q1 hb'
      gi_wp2
      obtain ⟨Q1, hb'⟩ := KK.out
      exact ⟨(KOb hb').trans (KeepsOthers.setCell _ _ _), rfl, ⟨_, List.mem_append_right _ (List.mem_singleton.2 rfl), HT.out⟩, Q1.set 0 _, (Below.andThen (Below.andThen BB.out HB.out) hb').setCell (p := ⟨br, 0, none⟩) HE.out.2.1 _⟩
  case done =>
    rintro W ⟨hB, hall⟩ hK
    have HF := Lib.hid (show F = decide (Srt l) from by
      have h1 : F = true ↔ Srt l := HV.out.trans ⟨fun h => h.2, fun h => ⟨fun i hi hk => hall (i, at' l i) (flt_mem.2 ⟨hi, rfl, decide_eq_true hk⟩), h⟩⟩
      exact Bool.eq_iff_iff.2 (h1.trans decide_eq_true_iff.symm))
    have CS1 := Lib.hid (CS.out W (SL.out.next hB))
    rw [← HF.out] at CS1
    have cE := (RE.out.next hB).cell 0
    have lE := (RE.out.next hB).lt
    simp only [List.getElem?_cons_zero] at cE
    have HB := Lib.hid hB
    have HK := Lib.hid hK
    clear hB hall hK
    gi_wp2
    refine ⟨trivial, ?_⟩
    refine (callsIn_wide.2 CS1.out).mono ?_
    rintro e W' ⟨rfl, hb'⟩
    have Q1 := (R1.out.next HB.out).next hb'
    have q0 := Q1.cell 0
    have l0 := Q1.lt
    have f0 := Q1.frozen 0
    simp only [List.getElem?_cons_zero] at q0
    have hK2 : W'.heap[w3.heap.size]? = some (.deferred (some [])) := (hb'.block _ (Array.getElem?_eq_some_iff.1 HK.out).1).trans HK.out
    have P1 := Q1.set 0 (.bool F)
    have K4 : (W'.setCell ⟨br, 0, none⟩ (.bool F)).heap[w3.heap.size]? = some (.deferred (some [])) := (Below.heap_setCell _ _ _ _ (show w3.heap.size ≠ br by omega)).trans hK2
    have B4 : Below w.heap.size w (W'.setCell ⟨br, 0, none⟩ (.bool F)) := (Below.andThen (Below.andThen BB.out HB.out) hb').setCell (p := ⟨br, 0, none⟩) HE.out.2.1 _
    have KK := Lib.hid (And.intro P1 (And.intro K4 B4))
    clear cE lE Q1 hb' hK2 P1 K4 B4
    gi_wp2
    obtain ⟨P1, K4, B4⟩ := KK.out
    clear q0 f0 l0 KK
    simp only [List.set_cons_zero] at P1
    generalize W'.setCell ⟨br, 0, none⟩ (.bool F) = W4 at *
    refine ⟨by simp, .inl ⟨_, _, rfl, run_takeDeferred K4, ?_⟩⟩
    have hr' : Row (W4.putObj w3.heap.size (.deferred none)) br 4 [.bool F] := (World.putObj_heap_other (by omega)).trans P1
    have y0 := hr'.cell 0
    simp only [List.getElem?_cons_zero] at y0
    exact ⟨.bool F, by simp [results, Tryd.results24, go_sem, y0], rfl, B4.trans (belowK_b (w := w) (Nat.le_refl _) W4 _ _ _ (by have := HE.out; omega) K4 rfl rfl)⟩
  case stop =>
    rintro c pre W hpre ⟨rfl, ⟨x, hx, hT⟩, hr, hb⟩ hK
    have HF := Lib.hid (show F = false from by
      cases hf : F with
      | false => rfl
      | true =>
        obtain ⟨hx1, hx2, hx3⟩ := flt_mem.1 (hpre.subset hx)
        rw [hx2] at hx3
        exact absurd ((HV.out.1 hf).1 x.1 hx1 (of_decide_eq_true hx3)) hT)
    gi_wp2
    rw [HF.out]
    refine ⟨by simp, .inl ⟨_, _, rfl, run_takeDeferred hK, ?_⟩⟩
    have hr' : Row (W.putObj w3.heap.size (.deferred none)) br 4 [.bool false] := (World.putObj_heap_other (by omega)).trans hr
    have y0 := hr'.cell 0
    simp only [List.getElem?_cons_zero] at y0
    exact ⟨.bool false, by simp [results, Tryd.results24, go_sem, y0], rfl, hb.trans (belowK_b (w := w) (Nat.le_refl _) W _ _ _ (by have := HE.out; omega) hK rfl rfl)⟩
theorem Valid_any (acc cl : Int) (o : Option Addr) (N c : Nat) (l : List Po) (w : World) (hl : l.length = N) (hc : N ≤ c) (hc2 : c ≤ 9223372036854775807) (hS : Sl poE w o l) :
    Calls Tryd.prog 24 #[bookV acc o N c cl] w fun e w' => e = .returned (.bool (vd acc l cl)) ∧ Below w.heap.size w w' := by
  by_cases h : BaseP acc N cl
  · cases hf : l.all (fm acc) with
    | true => exact valid_rest acc cl o N c l w hl hc hc2 h hf hS
    | false =>
      rw [vd_no (fun g => by rw [(vd_split.1 g).2.1] at hf; cases hf)]
      exact valid_form acc cl o N c l w hl h hf hS
  · rw [vd_no (fun g => h (by rw [← hl]; exact g.1))]
    exact valid_base acc cl o N c w h
end Bk
end Go.Proofs.YtnhlhoijajhcjaaDoor
