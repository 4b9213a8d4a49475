/- Owed. -/
import Derived.Test.YtnhlhoijajhcjaaDoorBkR
import Derived.Sort.CutIn
set_option linter.unusedVariables false
set_option linter.unusedSimpArgs false
set_option linter.unnecessarySimpa false
namespace Go.Proofs.YtnhlhoijajhcjaaDoor
open Go.RowKit Go.Shelf
attribute [local go_sem] Oper.semAt_some
namespace Bk
open Sq
theorem own_put {α : Type} {E : El α} {e : TypeId} {w : World} {B0 k : Nat} {v : Value} {l : List α} {o : Obj} (h : Sq.Own E e w B0 v l) (hk : ∃ d, w.heap[k]? = some (.deferred d)) : Sq.Own E e (w.putObj k o) B0 v l := by
  refine ⟨h.1, ?_⟩
  rcases h.2 with h1 | ⟨g, cap, cur, h1, h2, h3, h4⟩
  · exact .inl h1
  · refine .inr ⟨g, cap, cur, h1, h2, (World.putObj_heap_other ?_).trans h3, h4⟩
    rintro rfl
    obtain ⟨d, hk⟩ := hk
    rw [hk] at h3
    cases h3
theorem sl_grown {w X Y : World} {o : Option Addr} {l : List Po} {row : Option Nat} (hS : Sl poE w o l) (hb : Below w.heap.size w X) (hg : X.grownBy Y row) (hr : ∀ r, row = some r → w.heap.size ≤ r) : Sl poE Y o l := hS.next (hb.grown hg hb.size hr)
def feeT (s : Int) (p : Po) : Bool := decide (p.kind = 1 ∧ p.sub = s)
def alive (l : List Po) (pre : List (Nat × Po)) : List (Nat × Po) := pre.filter fun x => !rev l x.1
def oT (l : List Po) (s : Int) : Nat → Int := sumP (alive l (flt (feeT s) l l.length))
theorem alive_yes {l : List Po} {pre : List (Nat × Po)} {x : Nat × Po} (h : rev l x.1 = false) : alive l (pre ++ [x]) = alive l pre ++ [x] := by
  unfold alive
  rw [List.filter_append]
  simp [h]
theorem alive_no {l : List Po} {pre : List (Nat × Po)} {x : Nat × Po} (h : rev l x.1 = true) : alive l (pre ++ [x]) = alive l pre := by
  unfold alive
  rw [List.filter_append]
  simp [h]
theorem alive_small {acc : Int} {l : List Po} {pre : List (Nat × Po)} {q : Po → Bool} (hf : ∀ p ∈ l, FmP acc p) (hl : l.length ≤ 900) (h : pre <+: flt q l l.length) (t : Nat) : -1000000000000 ≤ sumP (alive l pre) t ∧ sumP (alive l pre) t ≤ 1000000000000 := by
  have h1 := sumP_bd (alive l pre) (fun x hx => by
    have h2 := flt_mem.1 (h.subset (List.mem_filter.1 hx).1)
    rw [h2.2.1]
    exact hf _ (at_mem h2.1)) t
  have h3 := flt_prefix_len h
  have h4 : (alive l pre).length ≤ pre.length := List.length_filter_le _ _
  omega
set_option maxRecDepth 100000 in
set_option maxHeartbeats 4000000 in
theorem owed_bad (acc cl m : Int) (o : Option Addr) (N c : Nat) (l : List Po) (w : World) (hl : l.length = N) (hc : N ≤ c) (hc2 : c ≤ 9223372036854775807) (hS : Sl poE w o l) (h : ¬ (vd acc l cl = true ∧ 0 ≤ m ∧ m ≤ 999)) :
    Calls Tryd.prog 20 #[bookV acc o N c cl, .int .i64 m] w fun e w' => e = .returned errI ∧ Below w.heap.size w w' := by
  have CV := Lib.hid (fun W h => Valid_any acc cl o N c l W hl hc hc2 h)
  have CI := Lib.hid (fun W => isSubject_any m W)
  have SL := Lib.hid hS
  have HX := Lib.hid (show vd acc l cl = true → decide (0 ≤ m ∧ m ≤ 999) = false from fun h1 => decide_eq_false fun h2 => h ⟨h1, h2⟩)
  obtain ⟨G, hG⟩ : ∃ G, vd acc l cl = G := ⟨_, rfl⟩
  rw [hG] at CV HX
  obtain ⟨M, hM⟩ : ∃ M, decide (0 ≤ m ∧ m ≤ 999) = M := ⟨_, rfl⟩
  rw [hM] at CI HX
  clear hG hM hS h hl
  go_enter Tryd.func20, Tryd.ntmps20
  go_upto_region 1 with (fail)
  refine wp_named fun w1 hq => ?_
  obtain ⟨bA, eA⟩ : ∃ b, b = w.heap.size := ⟨_, rfl⟩
  obtain ⟨bm, em⟩ : ∃ b, b = w.heap.size + 1 := ⟨_, rfl⟩
  obtain ⟨r0, r1, hB, hs⟩ := rows2 w 24 3 [.int .i64 acc, .slice o N c, .int .i64 cl] [.int .i64 m] w1 hq
  rw [← em, ← eA]
  rw [← eA] at r0
  rw [← em] at r1
  have BB := Lib.hid hB
  replace SL := Lib.hid (SL.out.next hB)
  have RM := Lib.hid r1
  have a0 := r0.cell 0
  have a1 := r0.cell 1
  have a2 := r0.cell 2
  simp only [List.getElem?_cons_zero, List.getElem?_cons_succ] at a0 a1 a2
  have la := r0.lt
  clear hq eA em hB hs r0 r1
  go_wp2_with fail
  refine Calls.mono (CV.out _ SL.out) ?_
  rintro e w2 ⟨rfl, hb⟩
  have RM2 := Lib.hid (RM.out.next hb)
  have BB2 := Lib.hid (Below.andThen BB.out hb)
  clear a0 a1 a2 la hb
  have m0 := RM2.out.cell 0
  simp only [List.getElem?_cons_zero] at m0
  have lm := RM2.out.lt
  cases G with
  | false =>
    go_wp2_with fail
    refine bodyPost_ret (v := errI) (by first | (simp [results, Tryd.results20, go_sem]; done) | simp [results, Tryd.results20, go_sem, *]) rfl ⟨rfl, BB2.out⟩
  | true =>
    obtain rfl := HX.out rfl
    go_wp2_with fail
    with_reducible refine Calls.mono (CI.out _) ?_
    rintro e w3 ⟨rfl, rfl⟩
    go_wp2_with fail
    refine bodyPost_ret (v := errI) (by first | (simp [results, Tryd.results20, go_sem]; done) | simp [results, Tryd.results20, go_sem, *]) rfl ⟨rfl, BB2.out⟩
set_option maxRecDepth 100000 in
set_option maxHeartbeats 4000000 in
theorem owed_ok (acc cl m : Int) (A : Nat) (hA : acc = A) (o : Option Addr) (N c : Nat) (l : List Po) (w : World) (hl : l.length = N) (hc : N ≤ c) (hc2 : c ≤ 9223372036854775807) (hS : Sl poE w o l) (hv : vd acc l cl = true) (h1 : 0 ≤ m) (h2 : m ≤ 999) :
    Calls Tryd.prog 20 #[bookV acc o N c cl, .int .i64 m] w fun e w' => ∃ o' c', e = .returned (.tuple #[.slice o' A c', .int .i64 0]) ∧ Sq.Own intE 3 w' w.heap.size (.slice o' A c') ((List.range A).map (oT l m)) ∧ Below w.heap.size w w' := by
  have hS0 := hS
  obtain ⟨⟨hb1, hb2, -, -, hb5⟩, hok⟩ := vd_iff.1 hv
  have hf : ∀ p ∈ l, FmP acc p := fun p hp => by
    obtain ⟨i, hi, rfl⟩ := at_of_mem hp
    exact (hok i hi).1
  have CV := Lib.hid (fun W h => Valid_any acc cl o N c l W hl hc hc2 h)
  rw [hv] at CV
  have CI := Lib.hid (fun W => isSubject_any m W)
  rw [decide_eq_true (show 0 ≤ m ∧ m ≤ 999 from ⟨h1, h2⟩)] at CI
  have CR := Lib.hid (fun i W hS => reversed_any i o N c l W hl (by omega) hS)
  have SL := Lib.hid hS
  have HA := Lib.hid (show 2 ≤ A ∧ A ≤ 12 by omega)
  have hA2 : A ≤ 12 := HA.out.2
  subst hA
  have CC := Lib.hid (fun a W h => cloneI_any a A 12 ((List.range A).map (oT l m)) W (by simp) (by omega) h)
  have S12 := Lib.hid (fun g => (show (Tryd.prog.info? 82).map (·.size) = some (balC g).toArray.size by rw [infoBal, List.size_toArray, balC_len]))
  have HF := Lib.hid hf
  have SLG := Lib.hid (fun (X Y : World) (row : Option Nat) (h : Sl poE X o l) (hb : Below w.heap.size w X) (hg : X.grownBy Y row) (hr : ∀ r, row = some r → w.heap.size ≤ r) => sl_grown hS0 hb hg hr)
  have HL := Lib.hid hl
  have hN : N ≤ 200 := by omega
  clear hb1 hb2 hb5 hok hv h1 h2 hS hS0
  refine (callsIn_wide (n := 3)).1 ?_
  refine callsIn_of_wp_marks Tryd.func20 rfl trivial ?_
  simp only [Tryd.ntmps20, List.size_toArray, List.length_cons, List.length_nil, Nat.reduceAdd, Nat.reduceSub, Array.replicate_succ, Array.replicate_zero, List.push_toArray, List.append_toArray, List.nil_append, List.cons_append]
  gi_upto_region 1 with (fail)
  refine wpIn_named fun w1 hq => ?_
  obtain ⟨bA, eA⟩ : ∃ b, b = w.heap.size := ⟨_, rfl⟩
  obtain ⟨bm, em⟩ : ∃ b, b = w.heap.size + 1 := ⟨_, rfl⟩
  obtain ⟨r0, r1, hB, hs⟩ := rows2 w 24 3 [.int .i64 A, .slice o N c, .int .i64 cl] [.int .i64 m] w1 hq
  have HE1 := Lib.hid (show w.heap.size ≤ bA ∧ w.heap.size ≤ bm by omega)
  rw [← em, ← eA]
  rw [← eA] at r0
  rw [← em] at r1
  have BB := Lib.hid hB
  replace SL := Lib.hid (SL.out.next hB)
  have RM := Lib.hid r1
  have RA := Lib.hid r0
  have a0 := r0.cell 0
  have a1 := r0.cell 1
  have a2 := r0.cell 2
  simp only [List.getElem?_cons_zero, List.getElem?_cons_succ] at a0 a1 a2
  have la := r0.lt
  clear hq eA em hB hs r0 r1
  gi_wp2
  refine ⟨trivial, ?_⟩
  refine (callsIn_wide.2 (CV.out _ SL.out)).mono ?_
  rintro e w2 ⟨rfl, hb⟩
  replace RM := Lib.hid (RM.out.next hb)
  replace RA := Lib.hid (RA.out.next hb)
  replace SL := Lib.hid (SL.out.next hb)
  replace BB := Lib.hid (Below.andThen BB.out hb)
  clear a0 a1 a2 la hb
  have m0 := RM.out.cell 0
  simp only [List.getElem?_cons_zero] at m0
  have lm := RM.out.lt
  gi_wp2
  refine ⟨trivial, ?_⟩
  refine (callsIn_wide.2 (CI.out _)).mono ?_
  rintro e w3 ⟨rfl, rfl⟩
  clear m0 lm
  have a1 := RA.out.cell 1
  simp only [List.getElem?_cons_zero, List.getElem?_cons_succ] at a1
  have la := RA.out.lt
  gi_upto_region 5 with (fail)
  refine wpIn_named fun w3 hq => ?_
  obtain ⟨bE, eE⟩ : ∃ b, b = w2.heap.size := ⟨_, rfl⟩
  obtain ⟨bs, es⟩ : ∃ b, b = w2.heap.size + 1 := ⟨_, rfl⟩
  obtain ⟨RE, RS, hB, hs⟩ := rows2 w2 77 82 [.slice o N c] (balC fun _ => 0) w3 hq
  rw [← es, ← eE]
  rw [← eE] at RE
  rw [← es] at RS
  have RM0 := RM
  have RA0 := RA
  replace RM := Lib.hid (RM.out.next hB)
  replace RA := Lib.hid (RA.out.next hB)
  replace SL := Lib.hid (SL.out.next hB)
  have HE2 := Lib.hid (show bA < bE ∧ bm < bE ∧ bE < bs ∧ bs < w3.heap.size ∧ w.heap.size ≤ bE from ⟨by have := RA0.out.lt; omega, by have := RM0.out.lt; omega, by omega, by omega, by have := BB.out.size; omega⟩)
  replace BB := Lib.hid (Below.andThen BB.out hB)
  clear RM0 RA0 hq eE es hB hs a1 la
  have cE := RE.cell 0
  have lE := RE.lt
  simp only [List.getElem?_cons_zero] at cE
  gi_wp2_with (refine ⟨trivial, ?_⟩; gi_at_call 46; refine (callsIn_wide.2 (choose_any _ _ _ _ _ _)).mono ?_; rintro e w' ⟨rfl, rfl⟩)
  refine wpIn_named fun w4 e4 => ?_
  obtain ⟨be, ebe⟩ : ∃ b, b = w3.heap.size := ⟨_, rfl⟩
  obtain ⟨bi, ebi⟩ : ∃ b, b = w3.heap.size + 1 := ⟨_, rfl⟩
  obtain ⟨R2, R3, B4, S4⟩ := rows2 w3 77 85 [.slice o N c] [fnC 47 #[ptV bm]] w4 e4
  rw [← ebi, ← ebe]
  rw [← ebe] at R2
  rw [← ebi] at R3
  replace RM := Lib.hid (RM.out.next B4)
  replace RA := Lib.hid (RA.out.next B4)
  replace SL := Lib.hid (SL.out.next B4)
  replace RE := RE.next B4
  replace RS := RS.next B4
  have HE := Lib.hid (show w.heap.size ≤ bA ∧ w.heap.size ≤ bm ∧ bA < bs ∧ bm < bs ∧ bE < bs ∧ bs < be ∧ be < bi ∧ bi < w4.heap.size ∧ w.heap.size ≤ bE from by have := HE1.out; have := HE2.out; omega)
  replace BB := Lib.hid (Below.andThen BB.out B4)
  clear e4 ebe ebi B4 S4 cE lE HE1 HE2
  have h8 := HE.out.2.2.2.2.2.2.2.1
  have R0 := RM.out
  have R1 := RA.out
  have hS := SL.out
  have hBB := BB.out
  refine wpIn_rangeFunc_cellY rfl (by omega) (gf := 69) (lb := #[ptV be, ptV bi]) rfl trivial (enters_of Tryd.func69 (by kernel_rfl) rfl) (w4.heap.size + 2) (by omega)
    (seqFee bm (feeT m) (fun W => Has1 W bm (.int .i64 m)) (fun p hp W h => isFee_any bm m p W h) 2 (by omega) o N c hl (by omega) be bi (w4.heap.size + 2)) (fun o o' => by simp) (fun _ => rfl)
    (fun pre W => Row W bs 82 (balC (sumP (alive l pre))) ∧ Row W bA 24 [.int .i64 A, .slice o N c, .int .i64 cl] ∧ Row W bm 3 [.int .i64 m] ∧ Row W bE 77 [.slice o N c] ∧ Row W be 77 [.slice o N c] ∧ Row W bi 85 [fnC 47 #[ptV bm]] ∧ Sl poE W o l ∧ Below w.heap.size w W)
    (fun _ _ _ => False)
    (fun s X Y row ⟨h0, h1, h2, h3, h4, h5, hS, hb⟩ hg hrow => ⟨keep_row h0 hg (fun r e => by have := (hrow r e).1; have := HE.out; omega), keep_row h1 hg (fun r e => by have := (hrow r e).1; have := HE.out; omega), keep_row h2 hg (fun r e => by have := (hrow r e).1; have := HE.out; omega), keep_row h3 hg (fun r e => by have := (hrow r e).1; have := HE.out; omega), keep_row h4 hg (fun r e => by have := (hrow r e).1; have := HE.out; omega), keep_row h5 hg (fun r e => by have := (hrow r e).1; have := HE.out; omega), SLG.out _ _ _ hS hb hg (fun r e => by have := (hrow r e).1; have := HE.out; omega), hb.grown hg hb.size (fun k e => by have := (hrow k e).1; have := HE.out; omega)⟩)
    (fun c s X Y row h _ _ => h)
    (fun s X Y ⟨h0, h1, h2, h3, h4, h5, hS, hb⟩ hg _ => ⟨keep_row h0 hg (fun r e => by cases e; have := HE.out; omega), keep_row h1 hg (fun r e => by cases e; have := HE.out; omega), keep_row h2 hg (fun r e => by cases e; have := HE.out; omega), keep_row h3 hg (fun r e => by cases e; have := HE.out; omega), keep_row h4 hg (fun r e => by cases e; have := HE.out; omega), keep_row h5 hg (fun r e => by cases e; have := HE.out; omega), SLG.out _ _ _ hS hb hg (fun r e => by cases e; have := HE.out; omega), hb.grown hg hb.size (fun k e => by cases e; have := HE.out; omega)⟩)
    (fun c s X Y h _ _ => h)
    (fun s X ⟨h0, h1, h2, h3, h4, h5, hS, hb⟩ => ⟨⟨h4.lt, h4.cell 0, h5.lt, h5.cell 0, hS⟩, ⟨h2.lt, h2.cell 0⟩⟩)
    ⟨RS, R1, R0, RE, R2, R3, hS, hBB⟩
    (fun x => .cells x.2.v.cells 27)
    (fun x b => { tmps := #[bookV A o N c cl, .int .i64 m, ptV bA, ptV bm, .slice none 0 0, .int .i64 0, ptV bE, ptV bs, .int .i64 (x.1 : Int), ptV b, .agg #[.int .i64 A, .slice o N c, .int .i64 cl], .bool true, .bool false, .bool false, .int .i64 m, .bool true, .bool false, .bool false, .pointer (some ⟨bA, 1, none⟩), .slice o N c, .slice o N c, fnC 47 #[ptV bm], fnC 69 #[ptV be, ptV bi], .int .i64 (x.1 : Int), x.2.v, undef, undef, undef, undef, undef, undef, undef, undef, undef, undef, undef, undef], defers := [] })
    ?assign ?body ?done ?stop
  case assign =>
    intro lid x W K _ hK
    obtain ⟨i, kind, day, deb, cre, amt, sub, of⟩ := x
    unfold Po.v at hK
    dsimp only at hK
    simp only [encP, Po.v]
    gi_wp2
    exact hK
  case body =>
    rintro lid pre x W b ⟨h0, h1, h2, h3, h4, h5, hS, hB⟩ hpre hblk hb1 hb2
    have CR1 := Lib.hid (CR.out (x.1 : Int) W hS)
    have c0 := h3.cell 0
    have l0 := h3.lt
    simp only [List.getElem?_cons_zero] at c0
    have hx := flt_mem.1 (hpre.subset (show x ∈ pre ++ [x] by simp))
    have hfx : FmP A x.2 := by rw [hx.2.1]; exact HF.out _ (at_mem (by have := hx.1; omega))
    have hsm := Lib.hid (fun t => alive_small HF.out (by omega) (List.IsPrefix.trans (List.prefix_append pre [x]) hpre) t)
    have HY := Lib.hid (fun h => alive_yes (l := l) (pre := pre) (x := x) h)
    have HNo := Lib.hid (fun h => alive_no (l := l) (pre := pre) (x := x) h)
    have hbl := (Array.getElem?_eq_some_iff.1 hblk).1
    obtain ⟨i, p⟩ := x
    dsimp only at hfx hblk HY HNo CR1
    have KK := Lib.hid (And.intro h0 (And.intro h1 (And.intro h2 (And.intro h3 (And.intro h4 (And.intro h5 (And.intro hS (And.intro hB (And.intro hblk (And.intro hfx (And.intro hbl (And.intro hb1 hb2))))))))))))
    obtain ⟨F, hF⟩ : ∃ F, rev l (i : Int) = F := ⟨_, rfl⟩
    rw [hF] at CR1 HY HNo
    clear h0 h1 h2 h3 h4 h5 hS hB hblk hfx hbl hb1 hb2 hx hpre hF
    cases F with
    | true =>
      gi_wp2
      refine ⟨trivial, ((callsIn_wide.2 CR1.out).inRound lid).mono ?_⟩
      rintro e W' ⟨rfl, hb⟩
      clear c0 l0
      gi_wp2
      obtain ⟨h0, h1, h2, h3, h4, h5, hS, hB, hblk, hfx, hbl, hb1, hb2⟩ := KK.out
      refine ⟨below_keeps hb, hb.block _ (by omega), ?_, h1.next hb, h2.next hb, h3.next hb, h4.next hb, h5.next hb, hS.next hb, Below.andThen hB hb⟩
      rw [HNo.out (by trivial)]
      exact h0.next hb
    | false =>
      gi_wp2
      refine ⟨trivial, ((callsIn_wide.2 CR1.out).inRound lid).mono ?_⟩
      rintro e W' ⟨rfl, hb⟩
      clear c0 l0 CR1
      gi_upto_region 9 with (fail)
      obtain ⟨h0, h1, h2, h3, h4, h5, hS, hB, hblk, hfx, hbl, hb1, hb2⟩ := KK.out
      have CE := Lib.hid (fun w => effect_any p w (by have := hfx.2.2.2.1; omega) (by have := hfx.2.2.1; omega) (by have := hfx.2.2.2.2.2.1; omega))
      have CP := Lib.hid (fun w => plus_any (sumP (alive l pre)) (eff p) w (fun t _ => hsm.out t) (fun t _ => by have := eff_bd hfx t; omega))
      have HSUM := Lib.hid (show (balC fun t => sumP (alive l pre) t + eff p t) = balC (sumP (alive l (pre ++ [(i, p)]))) from balC_ext fun t _ => by rw [HY.out (by trivial)]; exact (sumP_snoc _ (i, p) t).symm)
      rw [HSUM.out] at CP
      have HX := Lib.hid (show W'.heap[b]? = some (.cells p.v.cells 27 (0, 0)) from (hb.block _ hbl).trans hblk)
      have hbl' := (Array.getElem?_eq_some_iff.1 HX.out).1
      have S7 : (Tryd.prog.info? 27).map (·.size) = some p.v.cells.size := by rw [show (Tryd.prog.info? 27).map (·.size) = some 7 by kernel_rfl]; rfl
      have SA := S12.out (sumP (alive l pre))
      have SB := S12.out (sumP (alive l (pre ++ [(i, p)])))
      have g0 := h0.next hb
      have BW := Lib.hid hb
      refine wpIn_region_kin_tail (m := 4) (by kernel_rfl) (by kernel_rfl) (fun ⟨a, w', h⟩ => h) (by kernel_rfl) W'.heap.size 0 (by simp) (fun hk => ?_)
      simp only [List.take_succ_cons, List.take_zero, List.drop_succ_cons, List.drop_zero]
      refine wpQuiet_load_row rfl _ _ rfl bs rfl _ _ _ _ (fun w' hw' => by obtain ⟨k, rfl⟩ := hw'; exact g0.next k.below) Tryd.underlying82 rfl SA ?_
      refine wpQuiet_load_row rfl _ _ rfl b rfl _ p.v.cells _ _ (fun w' hw' => by obtain ⟨k, rfl⟩ := hw'; exact (k.below.block _ hbl').trans HX.out) Tryd.underlying27 rfl S7 ?_
      have G0 := Lib.hid g0
      clear hk h0 h1 h2 h3 h4 h5 hS hB hblk hfx hbl hb1 hb2 HX SA S7 hbl' g0 hb
      obtain ⟨kind, day, deb, cre, amt, sub, of⟩ := p
      unfold Po.v at CE
      dsimp only at CE
      simp only [Act.put, List.setIfInBounds_toArray, List.set_cons_zero, List.set_cons_succ, Po.v, Value.cells]
      go_big_quiet_step ((go_at_call 50; exact Calls.kin (CE.out _)))
      clear CE
      go_big_quiet_step ((go_at_call 49; exact Calls.kin (CP.out _)))
      clear CP
      refine wpQuiet_nil ?_
      intro W2 hb'
      obtain ⟨h0, h1, h2, h3, h4, h5, hS, hB, hblk, hfx, hbl, hb1, hb2⟩ := KK.out
      have hb := Below.andThen BW.out hb'
      refine wpList_store_row rfl _ _ _ rfl bs (balC (sumP (alive l (pre ++ [(i, ⟨kind, day, deb, cre, amt, sub, of⟩)])))).toArray rfl rfl _ _ (h0.next hb) SB (by rw [List.size_toArray, List.size_toArray, balC_len, balC_len]) (balC_one _) ?_
      have R2 := h0.next hb
      refine ⟨(below_keeps hb).trans (grown_keeps R2 (setRow_grown _ _ _)), ?_, ?_, ?_, ?_, ?_, ?_, ?_, ?_, ?_⟩
      · rw [setRow_other _ _ _ _ (by have := HE.out; omega)]
        exact hb.block _ (by omega)
      · exact R2.setRow _
      · exact (setRow_other _ _ _ _ (by have := HE.out; omega)).trans (h1.next hb)
      · exact (setRow_other _ _ _ _ (by have := HE.out; omega)).trans (h2.next hb)
      · exact (setRow_other _ _ _ _ (by have := HE.out; omega)).trans (h3.next hb)
      · exact (setRow_other _ _ _ _ (by have := HE.out; omega)).trans (h4.next hb)
      · exact (setRow_other _ _ _ _ (by have := HE.out; omega)).trans (h5.next hb)
      · exact SLG.out _ _ (some bs) (hS.next hb) (Below.andThen hB hb) (setRow_grown _ _ _) (fun r e => by cases e; have := HE.out; omega)
      · exact (Below.andThen hB hb).trans ⟨rfl, rfl, rfl, by simp, fun k hk => setRow_other _ _ k _ (by have := HE.out; omega)⟩
  case done =>
    rintro W ⟨h0, h1, h2, h3, h4, h5, hS, hB⟩ hK
    have SI := Lib.hid (row_ints (n := A) (oT l m) h0 hA2)
    have a0 := h1.cell 0
    simp only [List.getElem?_cons_zero, List.getElem?_cons_succ] at a0
    have la := h1.lt
    have ls := h0.lt
    have hsl := slice_bal bs A hA2
    have KK := Lib.hid (And.intro hB hK)
    clear h0 h1 h2 h3 h4 h5 hS hB hK
    gi_wp2
    refine ⟨trivial, ?_⟩
    refine (callsIn_wide.2 (CC.out _ _ SI.out)).mono ?_
    rintro e w5 ⟨v, rfl, hO, hb⟩
    obtain ⟨o', c', rfl, -, -, -, -⟩ := hO.vw
    rw [show ((List.range A).map (oT l m)).length = A by simp] at hO ⊢
    have HO := Lib.hid hO
    obtain ⟨hB, hK⟩ := KK.out
    have K4 := Lib.hid (show w5.heap[w4.heap.size]? = some (.deferred (some [])) from (hb.block _ (Array.getElem?_eq_some_iff.1 hK).1).trans hK)
    have BB5 := Lib.hid (Below.andThen hB hb)
    have HLE := Lib.hid hB.size
    clear hO hb a0 la ls hB hK
    gi_wp2
    refine ⟨by simp, .inl ⟨_, _, rfl, run_takeDeferred K4.out, ?_⟩⟩
    exact ⟨.tuple #[.slice o' A c', .int .i64 0], by simp [results, Tryd.results20, go_sem], o', c', rfl, Sq.Own.lower (own_put HO.out ⟨_, K4.out⟩) HLE.out, BB5.out.trans (belowK_b (w := w) (Nat.le_refl _) w5 _ _ _ (by have := HE.out; omega) K4.out rfl rfl)⟩
  case stop =>
    rintro c pre W hpre h
    exact h.elim
def OwP (acc : Int) (l : List Po) (cl m : Int) : Prop := vd acc l cl = true ∧ 0 ≤ m ∧ m ≤ 999
instance (acc : Int) (l : List Po) (cl m : Int) : Decidable (OwP acc l cl m) := by unfold OwP; infer_instance
theorem Owed_any (acc cl m : Int) (o : Option Addr) (N c : Nat) (l : List Po) (w : World) (hl : l.length = N) (hc : N ≤ c) (hc2 : c ≤ 9223372036854775807) (hS : Sl poE w o l) :
    Calls Tryd.prog 20 #[bookV acc o N c cl, .int .i64 m] w fun e w' => ((OwP acc l cl m → ∃ o' c', e = .returned (.tuple #[.slice o' acc.toNat c', .int .i64 0]) ∧ Sq.Own intE 3 w' w.heap.size (.slice o' acc.toNat c') ((List.range acc.toNat).map (oT l m))) ∧
      (¬ OwP acc l cl m → e = .returned errI)) ∧ Below w.heap.size w w' := by
  by_cases h : OwP acc l cl m
  · have hb := (vd_iff.1 h.1).1
    have hb1 := hb.1
    refine Calls.mono (owed_ok acc cl m acc.toNat (by omega) o N c l w hl hc hc2 hS h.1 h.2.1 h.2.2) ?_
    rintro e w' ⟨o', c', rfl, hO, hb⟩
    exact ⟨⟨fun _ => ⟨o', c', rfl, hO⟩, fun h2 => absurd h h2⟩, hb⟩
  · refine Calls.mono (owed_bad acc cl m o N c l w hl hc hc2 hS h) ?_
    rintro e w' ⟨rfl, hb⟩
    exact ⟨⟨fun h2 => absurd h2 h, fun _ => rfl⟩, hb⟩
end Bk
end Go.Proofs.YtnhlhoijajhcjaaDoor
