/- What the function that hands out the chosen postings owes, for each of the closures that choose. -/
import Derived.Test.YtnhlhoijajhcjaaDoorBkD
import Derived.Stop.RegionWithIn
set_option linter.unusedVariables false
set_option linter.unusedSimpArgs false
set_option linter.unnecessarySimpa false
namespace Go.Proofs.YtnhlhoijajhcjaaDoor
open Go.RowKit Go.Shelf
attribute [local go_sem] Oper.semAt_some
namespace Bk
open Sq
/-- what the function reads between the rounds -/
structure YW (o : Option Addr) (n c : Nat) (l : List Po) (be bi : Nat) (fv : Value) (W : World) : Prop where
  el : be < W.heap.size
  ec : W.cell? ⟨be, 0, none⟩ = some (.slice o n c)
  il : bi < W.heap.size
  ic : W.cell? ⟨bi, 0, none⟩ = some fv
  sl : Sl poE W o l
theorem YW.next {o : Option Addr} {n c : Nat} {l : List Po} {be bi : Nat} {fv : Value} {W W' : World} (h : YW o n c l be bi fv W) (hb : Below W.heap.size W W') : YW o n c l be bi fv W' :=
  ⟨Nat.lt_of_lt_of_le h.el hb.size, (hb.cell (p := ⟨be, 0, none⟩) h.el).trans h.ec, Nat.lt_of_lt_of_le h.il hb.size, (hb.cell (p := ⟨bi, 0, none⟩) h.il).trans h.ic, h.sl.next hb⟩
abbrev encP (x : Nat × Po) : Array Value := #[.int .i64 (x.1 : Int), x.2.v]
set_option maxRecDepth 100000 in
set_option maxHeartbeats 4000000 in
theorem seqBack {l : List Po} (bn : Nat) (q : Po → Bool) (PC : World → Prop) (hC : ∀ p ∈ l, ∀ W, PC W → Calls Tryd.prog 54 (#[p.v] ++ #[]) W fun e w' => e = .returned (.bool (q p)) ∧ Below W.heap.size W w')
    (n : Nat) (hn : 1 ≤ n) (o : Option Addr) (N c : Nat) (hl : l.length = N) (hN : N ≤ 1000000) (be bi : Nat) (B : Nat) :
    SeqCellY Fence.wide n Tryd.prog 69 #[ptV be, ptV bi] encP (flt q l l.length) B (fun W => W.heap.size = B) (fun W => YW o N c l be bi (fnC 54 #[]) W ∧ PC W) := by
  intro lid J Jx W hZ hJT hJ hJx hY h0
  subst hZ
  have HC := Lib.hid hC
  have HJT := Lib.hid hJT
  have HY := Lib.hid hY
  have HJB := Lib.hid (show ∀ s A A', J s A → Below A.heap.size A A' → J s A' from fun s A A' h hb => hJ _ _ _ h (below_grown hb _) (below_keeps hb))
  have HFY := Lib.hid (fun k => flt_yes (q := q) (l := l) (k := k))
  have HFN := Lib.hid (fun k => flt_no (q := q) (l := l) (k := k))
  have HFM := Lib.hid (fun k n => flt_more (q := q) (l := l) (k := k) (n := n))
  have HL := Lib.hid hl
  have HBB := Lib.hid (Below.refl W.heap.size W)
  obtain ⟨el, ec, il, ic, -⟩ := (hJT _ _ h0).1
  have H0 := Lib.hid h0
  clear hC hJT hY hJ hJx h0 hl
  refine callsIn_of_wp Tryd.func69 rfl trivial ?_ rfl
  simp only [Tryd.ntmps69, List.size_toArray, List.length_cons, List.length_nil, Nat.reduceAdd, Nat.reduceSub, Array.replicate_succ, Array.replicate_zero, List.push_toArray, List.append_toArray, List.nil_append, List.cons_append, Array.append_empty]
  gi_wp2
  clear el ec il ic
  gi_loopw [8] (fun jv wr => ∃ k : Nat, jv = .int .i64 k ∧ k ≤ N ∧ J (flt q l k) wr ∧ W.heap.size ≤ wr.heap.size) (fun jv _ => N - (intOf jv).toNat)
  case atStart => exact ⟨0, rfl, Nat.zero_le _, H0.out, Nat.le_refl _⟩
  case round =>
    obtain ⟨k, rfl, hk, hJs, hsz⟩ := hrel
    rename World => wr
    have HJ := Lib.hid hJs
    have HSZ := Lib.hid hsz
    have HYW := Lib.hid (HJT.out _ _ hJs).1
    have HPC := Lib.hid (HJT.out _ _ hJs).2
    clear hJs hsz
    by_cases hlt : k < N
    · obtain ⟨bl, off, eo, -, -⟩ := HYW.out.sl.cells (fun e => by have := HL.out; rw [e] at this; simp at this; omega)
      have EO := Lib.hid eo
      have SL := Lib.hid (show Sl poE wr (some ⟨bl, off, none⟩) l from by rw [← eo]; exact HYW.out.sl)
      subst eo
      obtain ⟨lb, c0, c1, c2, c3, c4, c5, c6⟩ := sl_at SL.out (k := k) (by rw [HL.out]; exact hlt)
      have HCk := Lib.hid (fun W h => HC.out (at' l k) (at_mem (by rw [HL.out]; exact hlt)) W h)
      have HFk := Lib.hid (fun h => HFY.out k h)
      have HGk := Lib.hid (fun h => HFN.out k h)
      have HPk := Lib.hid (HFM.out (k + 1) l.length (by rw [HL.out]; omega))
      have HYk := Lib.hid (fun W1 h1 h2 h3 => HY.out (flt q l k) (k, at' l k) W1 h1 h2 h3)
      obtain ⟨x, hx⟩ : ∃ x, q (at' l k) = x := ⟨_, rfl⟩
      rw [hx] at HCk HFk HGk
      clear hx
      unfold encP Po.v at HYk
      unfold Po.v at HCk
      dsimp only at HYk
      generalize at' l k = p at *
      obtain ⟨kind, day, deb, cre, amt, sub, of⟩ := p
      dsimp only at *
      obtain ⟨-, -, il, ic, -⟩ := HYW.out
      have hne : wr.heap.size ≠ bi := by omega
      cases x with
      | true =>
        gi_wp2
        refine ⟨trivial, ?_⟩
        refine (callsIn_wide.2 (HCk.out _ ?_)).mono ?_
        · exact (HJT.out _ _ (HJB.out _ _ _ HJ.out ((Below.refl _ _).alloc (Nat.le_refl _) _))).2
        rintro e w3 ⟨rfl, hb⟩
        have HB3 := Lib.hid (Below.andThen ((Below.refl wr.heap.size wr).alloc (Nat.le_refl _) _) hb)
        have hs3 : wr.heap.size + 1 ≤ w3.heap.size := by have := hb.size; simp at this; omega
        obtain ⟨bp, ebp⟩ : ∃ b, b = wr.heap.size := ⟨_, rfl⟩
        have RP := Lib.hid (show Row w3 bp 27 [.int .i64 kind, .int .i64 day, .int .i64 deb, .int .i64 cre, .int .i64 amt, .int .i64 sub, .int .i64 of] from by rw [ebp]; exact (Row.new wr _ _).next hb)
        have HJ3 := Lib.hid (HJB.out _ _ _ HJ.out HB3.out)
        have HS3 := Lib.hid (show W.heap.size < w3.heap.size by have := HSZ.out; omega)
        obtain ⟨fn, tmps, assign, body, hyy, hRd⟩ := HYk.out w3 HJ3.out (by have := HPk.out; rw [HFk.out (by trivial)] at this; exact this) HS3.out
        rw [← ebp]
        clear hb ebp hs3
        have d0 := RP.out.cell 0
        have d1 := RP.out.cell 1
        have d2 := RP.out.cell 2
        have d3 := RP.out.cell 3
        have d4 := RP.out.cell 4
        have d5 := RP.out.cell 5
        have d6 := RP.out.cell 6
        simp only [List.getElem?_cons_zero, List.getElem?_cons_succ] at d0 d1 d2 d3 d4 d5 d6
        clear c0 c1 c2 c3 c4 c5 c6 lb il ic hne
        gi_wp2
        refine hRd.mono ?_
        rintro e w4 (⟨rfl, hJ4, hk4⟩ | ⟨rfl, hJx4⟩)
        · have HK4 := Lib.hid hk4
          have HJ4 := Lib.hid hJ4
          clear hk4 hJ4 d0 d1 d2 d3 d4 d5 d6
          gi_wp2
          go_roundw
          case rel =>
            refine ⟨k + 1, by go_num, by omega, by rw [HFk.out (by trivial)]; exact HJ4.out, Nat.le_of_lt ?_⟩
            have h1 := HK4.out
            rw [Array.getElem?_eq_getElem HS3.out] at h1
            exact (Array.getElem?_eq_some_iff.1 h1).1
          case measure => simp [intOf]; omega
        · have HJ4 := Lib.hid hJx4
          clear hJx4 d0 d1 d2 d3 d4 d5 d6
          gi_wp2
          refine bodyPost_ret (results_none rfl _ _ _) rfl ?_
          exact ⟨⟨_, rfl⟩, .inr ⟨_, by have := HPk.out; rw [HFk.out (by trivial)] at this; exact this, HJ4.out⟩⟩
      | false =>
        gi_wp2
        refine ⟨trivial, ?_⟩
        refine (callsIn_wide.2 (HCk.out _ ?_)).mono ?_
        · exact (HJT.out _ _ (HJB.out _ _ _ HJ.out ((Below.refl _ _).alloc (Nat.le_refl _) _))).2
        rintro e w3 ⟨rfl, hb⟩
        have HB3 := Lib.hid (Below.andThen ((Below.refl wr.heap.size wr).alloc (Nat.le_refl _) _) hb)
        have HJ3 := Lib.hid (HJB.out _ _ _ HJ.out HB3.out)
        clear hb c0 c1 c2 c3 c4 c5 c6 lb il ic hne
        gi_wp2
        refine ⟨(fun f h => by cases h), ?_⟩
        gi_wp2
        go_roundw
        case rel => exact ⟨k + 1, by go_num, by omega, by rw [HGk.out (by trivial)]; exact HJ3.out, Nat.le_trans HSZ.out HB3.out.size⟩
        case measure => simp [intOf]; omega
    · obtain rfl : k = N := by omega
      gi_wp2
      go_end0
      exact ⟨⟨_, rfl⟩, .inl (by rw [HL.out]; exact HJ.out)⟩
set_option maxRecDepth 100000 in
set_option maxHeartbeats 4000000 in
theorem seqRev {l : List Po} (bn : Nat) (q : Po → Bool) (PC : World → Prop) (hC : ∀ p ∈ l, ∀ W, PC W → Calls Tryd.prog 70 (#[p.v] ++ #[ptV bn]) W fun e w' => e = .returned (.bool (q p)) ∧ Below W.heap.size W w')
    (n : Nat) (hn : 1 ≤ n) (o : Option Addr) (N c : Nat) (hl : l.length = N) (hN : N ≤ 1000000) (be bi : Nat) (B : Nat) :
    SeqCellY Fence.wide n Tryd.prog 69 #[ptV be, ptV bi] encP (flt q l l.length) B (fun W => W.heap.size = B) (fun W => YW o N c l be bi (fnC 70 #[ptV bn]) W ∧ PC W) := by
  intro lid J Jx W hZ hJT hJ hJx hY h0
  subst hZ
  have HC := Lib.hid hC
  have HJT := Lib.hid hJT
  have HY := Lib.hid hY
  have HJB := Lib.hid (show ∀ s A A', J s A → Below A.heap.size A A' → J s A' from fun s A A' h hb => hJ _ _ _ h (below_grown hb _) (below_keeps hb))
  have HFY := Lib.hid (fun k => flt_yes (q := q) (l := l) (k := k))
  have HFN := Lib.hid (fun k => flt_no (q := q) (l := l) (k := k))
  have HFM := Lib.hid (fun k n => flt_more (q := q) (l := l) (k := k) (n := n))
  have HL := Lib.hid hl
  have HBB := Lib.hid (Below.refl W.heap.size W)
  obtain ⟨el, ec, il, ic, -⟩ := (hJT _ _ h0).1
  have H0 := Lib.hid h0
  clear hC hJT hY hJ hJx h0 hl
  refine callsIn_of_wp Tryd.func69 rfl trivial ?_ rfl
  simp only [Tryd.ntmps69, List.size_toArray, List.length_cons, List.length_nil, Nat.reduceAdd, Nat.reduceSub, Array.replicate_succ, Array.replicate_zero, List.push_toArray, List.append_toArray, List.nil_append, List.cons_append, Array.append_empty]
  gi_wp2
  clear el ec il ic
  gi_loopw [8] (fun jv wr => ∃ k : Nat, jv = .int .i64 k ∧ k ≤ N ∧ J (flt q l k) wr ∧ W.heap.size ≤ wr.heap.size) (fun jv _ => N - (intOf jv).toNat)
  case atStart => exact ⟨0, rfl, Nat.zero_le _, H0.out, Nat.le_refl _⟩
  case round =>
    obtain ⟨k, rfl, hk, hJs, hsz⟩ := hrel
    rename World => wr
    have HJ := Lib.hid hJs
    have HSZ := Lib.hid hsz
    have HYW := Lib.hid (HJT.out _ _ hJs).1
    have HPC := Lib.hid (HJT.out _ _ hJs).2
    clear hJs hsz
    by_cases hlt : k < N
    · obtain ⟨bl, off, eo, -, -⟩ := HYW.out.sl.cells (fun e => by have := HL.out; rw [e] at this; simp at this; omega)
      have EO := Lib.hid eo
      have SL := Lib.hid (show Sl poE wr (some ⟨bl, off, none⟩) l from by rw [← eo]; exact HYW.out.sl)
      subst eo
      obtain ⟨lb, c0, c1, c2, c3, c4, c5, c6⟩ := sl_at SL.out (k := k) (by rw [HL.out]; exact hlt)
      have HCk := Lib.hid (fun W h => HC.out (at' l k) (at_mem (by rw [HL.out]; exact hlt)) W h)
      have HFk := Lib.hid (fun h => HFY.out k h)
      have HGk := Lib.hid (fun h => HFN.out k h)
      have HPk := Lib.hid (HFM.out (k + 1) l.length (by rw [HL.out]; omega))
      have HYk := Lib.hid (fun W1 h1 h2 h3 => HY.out (flt q l k) (k, at' l k) W1 h1 h2 h3)
      obtain ⟨x, hx⟩ : ∃ x, q (at' l k) = x := ⟨_, rfl⟩
      rw [hx] at HCk HFk HGk
      clear hx
      unfold encP Po.v at HYk
      unfold Po.v at HCk
      dsimp only at HYk
      generalize at' l k = p at *
      obtain ⟨kind, day, deb, cre, amt, sub, of⟩ := p
      dsimp only at *
      obtain ⟨-, -, il, ic, -⟩ := HYW.out
      have hne : wr.heap.size ≠ bi := by omega
      cases x with
      | true =>
        gi_wp2
        refine ⟨trivial, ?_⟩
        refine (callsIn_wide.2 (HCk.out _ ?_)).mono ?_
        · exact (HJT.out _ _ (HJB.out _ _ _ HJ.out ((Below.refl _ _).alloc (Nat.le_refl _) _))).2
        rintro e w3 ⟨rfl, hb⟩
        have HB3 := Lib.hid (Below.andThen ((Below.refl wr.heap.size wr).alloc (Nat.le_refl _) _) hb)
        have hs3 : wr.heap.size + 1 ≤ w3.heap.size := by have := hb.size; simp at this; omega
        obtain ⟨bp, ebp⟩ : ∃ b, b = wr.heap.size := ⟨_, rfl⟩
        have RP := Lib.hid (show Row w3 bp 27 [.int .i64 kind, .int .i64 day, .int .i64 deb, .int .i64 cre, .int .i64 amt, .int .i64 sub, .int .i64 of] from by rw [ebp]; exact (Row.new wr _ _).next hb)
        have HJ3 := Lib.hid (HJB.out _ _ _ HJ.out HB3.out)
        have HS3 := Lib.hid (show W.heap.size < w3.heap.size by have := HSZ.out; omega)
        obtain ⟨fn, tmps, assign, body, hyy, hRd⟩ := HYk.out w3 HJ3.out (by have := HPk.out; rw [HFk.out (by trivial)] at this; exact this) HS3.out
        rw [← ebp]
        clear hb ebp hs3
        have d0 := RP.out.cell 0
        have d1 := RP.out.cell 1
        have d2 := RP.out.cell 2
        have d3 := RP.out.cell 3
        have d4 := RP.out.cell 4
        have d5 := RP.out.cell 5
        have d6 := RP.out.cell 6
        simp only [List.getElem?_cons_zero, List.getElem?_cons_succ] at d0 d1 d2 d3 d4 d5 d6
        clear c0 c1 c2 c3 c4 c5 c6 lb il ic hne
        gi_wp2
        refine hRd.mono ?_
        rintro e w4 (⟨rfl, hJ4, hk4⟩ | ⟨rfl, hJx4⟩)
        · have HK4 := Lib.hid hk4
          have HJ4 := Lib.hid hJ4
          clear hk4 hJ4 d0 d1 d2 d3 d4 d5 d6
          gi_wp2
          go_roundw
          case rel =>
            refine ⟨k + 1, by go_num, by omega, by rw [HFk.out (by trivial)]; exact HJ4.out, Nat.le_of_lt ?_⟩
            have h1 := HK4.out
            rw [Array.getElem?_eq_getElem HS3.out] at h1
            exact (Array.getElem?_eq_some_iff.1 h1).1
          case measure => simp [intOf]; omega
        · have HJ4 := Lib.hid hJx4
          clear hJx4 d0 d1 d2 d3 d4 d5 d6
          gi_wp2
          refine bodyPost_ret (results_none rfl _ _ _) rfl ?_
          exact ⟨⟨_, rfl⟩, .inr ⟨_, by have := HPk.out; rw [HFk.out (by trivial)] at this; exact this, HJ4.out⟩⟩
      | false =>
        gi_wp2
        refine ⟨trivial, ?_⟩
        refine (callsIn_wide.2 (HCk.out _ ?_)).mono ?_
        · exact (HJT.out _ _ (HJB.out _ _ _ HJ.out ((Below.refl _ _).alloc (Nat.le_refl _) _))).2
        rintro e w3 ⟨rfl, hb⟩
        have HB3 := Lib.hid (Below.andThen ((Below.refl wr.heap.size wr).alloc (Nat.le_refl _) _) hb)
        have HJ3 := Lib.hid (HJB.out _ _ _ HJ.out HB3.out)
        clear hb c0 c1 c2 c3 c4 c5 c6 lb il ic hne
        gi_wp2
        refine ⟨(fun f h => by cases h), ?_⟩
        gi_wp2
        go_roundw
        case rel => exact ⟨k + 1, by go_num, by omega, by rw [HGk.out (by trivial)]; exact HJ3.out, Nat.le_trans HSZ.out HB3.out.size⟩
        case measure => simp [intOf]; omega
    · obtain rfl : k = N := by omega
      gi_wp2
      go_end0
      exact ⟨⟨_, rfl⟩, .inl (by rw [HL.out]; exact HJ.out)⟩
set_option maxRecDepth 100000 in
set_option maxHeartbeats 4000000 in
theorem seqFee {l : List Po} (bn : Nat) (q : Po → Bool) (PC : World → Prop) (hC : ∀ p ∈ l, ∀ W, PC W → Calls Tryd.prog 47 (#[p.v] ++ #[ptV bn]) W fun e w' => e = .returned (.bool (q p)) ∧ Below W.heap.size W w')
    (n : Nat) (hn : 1 ≤ n) (o : Option Addr) (N c : Nat) (hl : l.length = N) (hN : N ≤ 1000000) (be bi : Nat) (B : Nat) :
    SeqCellY Fence.wide n Tryd.prog 69 #[ptV be, ptV bi] encP (flt q l l.length) B (fun W => W.heap.size = B) (fun W => YW o N c l be bi (fnC 47 #[ptV bn]) W ∧ PC W) := by
  intro lid J Jx W hZ hJT hJ hJx hY h0
  subst hZ
  have HC := Lib.hid hC
  have HJT := Lib.hid hJT
  have HY := Lib.hid hY
  have HJB := Lib.hid (show ∀ s A A', J s A → Below A.heap.size A A' → J s A' from fun s A A' h hb => hJ _ _ _ h (below_grown hb _) (below_keeps hb))
  have HFY := Lib.hid (fun k => flt_yes (q := q) (l := l) (k := k))
  have HFN := Lib.hid (fun k => flt_no (q := q) (l := l) (k := k))
  have HFM := Lib.hid (fun k n => flt_more (q := q) (l := l) (k := k) (n := n))
  have HL := Lib.hid hl
  have HBB := Lib.hid (Below.refl W.heap.size W)
  obtain ⟨el, ec, il, ic, -⟩ := (hJT _ _ h0).1
  have H0 := Lib.hid h0
  clear hC hJT hY hJ hJx h0 hl
  refine callsIn_of_wp Tryd.func69 rfl trivial ?_ rfl
  simp only [Tryd.ntmps69, List.size_toArray, List.length_cons, List.length_nil, Nat.reduceAdd, Nat.reduceSub, Array.replicate_succ, Array.replicate_zero, List.push_toArray, List.append_toArray, List.nil_append, List.cons_append, Array.append_empty]
  gi_wp2
  clear el ec il ic
  gi_loopw [8] (fun jv wr => ∃ k : Nat, jv = .int .i64 k ∧ k ≤ N ∧ J (flt q l k) wr ∧ W.heap.size ≤ wr.heap.size) (fun jv _ => N - (intOf jv).toNat)
  case atStart => exact ⟨0, rfl, Nat.zero_le _, H0.out, Nat.le_refl _⟩
  case round =>
    obtain ⟨k, rfl, hk, hJs, hsz⟩ := hrel
    rename World => wr
    have HJ := Lib.hid hJs
    have HSZ := Lib.hid hsz
    have HYW := Lib.hid (HJT.out _ _ hJs).1
    have HPC := Lib.hid (HJT.out _ _ hJs).2
    clear hJs hsz
    by_cases hlt : k < N
    · obtain ⟨bl, off, eo, -, -⟩ := HYW.out.sl.cells (fun e => by have := HL.out; rw [e] at this; simp at this; omega)
      have EO := Lib.hid eo
      have SL := Lib.hid (show Sl poE wr (some ⟨bl, off, none⟩) l from by rw [← eo]; exact HYW.out.sl)
      subst eo
      obtain ⟨lb, c0, c1, c2, c3, c4, c5, c6⟩ := sl_at SL.out (k := k) (by rw [HL.out]; exact hlt)
      have HCk := Lib.hid (fun W h => HC.out (at' l k) (at_mem (by rw [HL.out]; exact hlt)) W h)
      have HFk := Lib.hid (fun h => HFY.out k h)
      have HGk := Lib.hid (fun h => HFN.out k h)
      have HPk := Lib.hid (HFM.out (k + 1) l.length (by rw [HL.out]; omega))
      have HYk := Lib.hid (fun W1 h1 h2 h3 => HY.out (flt q l k) (k, at' l k) W1 h1 h2 h3)
      obtain ⟨x, hx⟩ : ∃ x, q (at' l k) = x := ⟨_, rfl⟩
      rw [hx] at HCk HFk HGk
      clear hx
      unfold encP Po.v at HYk
      unfold Po.v at HCk
      dsimp only at HYk
      generalize at' l k = p at *
      obtain ⟨kind, day, deb, cre, amt, sub, of⟩ := p
      dsimp only at *
      obtain ⟨-, -, il, ic, -⟩ := HYW.out
      have hne : wr.heap.size ≠ bi := by omega
      cases x with
      | true =>
        gi_wp2
        refine ⟨trivial, ?_⟩
        refine (callsIn_wide.2 (HCk.out _ ?_)).mono ?_
        · exact (HJT.out _ _ (HJB.out _ _ _ HJ.out ((Below.refl _ _).alloc (Nat.le_refl _) _))).2
        rintro e w3 ⟨rfl, hb⟩
        have HB3 := Lib.hid (Below.andThen ((Below.refl wr.heap.size wr).alloc (Nat.le_refl _) _) hb)
        have hs3 : wr.heap.size + 1 ≤ w3.heap.size := by have := hb.size; simp at this; omega
        obtain ⟨bp, ebp⟩ : ∃ b, b = wr.heap.size := ⟨_, rfl⟩
        have RP := Lib.hid (show Row w3 bp 27 [.int .i64 kind, .int .i64 day, .int .i64 deb, .int .i64 cre, .int .i64 amt, .int .i64 sub, .int .i64 of] from by rw [ebp]; exact (Row.new wr _ _).next hb)
        have HJ3 := Lib.hid (HJB.out _ _ _ HJ.out HB3.out)
        have HS3 := Lib.hid (show W.heap.size < w3.heap.size by have := HSZ.out; omega)
        obtain ⟨fn, tmps, assign, body, hyy, hRd⟩ := HYk.out w3 HJ3.out (by have := HPk.out; rw [HFk.out (by trivial)] at this; exact this) HS3.out
        rw [← ebp]
        clear hb ebp hs3
        have d0 := RP.out.cell 0
        have d1 := RP.out.cell 1
        have d2 := RP.out.cell 2
        have d3 := RP.out.cell 3
        have d4 := RP.out.cell 4
        have d5 := RP.out.cell 5
        have d6 := RP.out.cell 6
        simp only [List.getElem?_cons_zero, List.getElem?_cons_succ] at d0 d1 d2 d3 d4 d5 d6
        clear c0 c1 c2 c3 c4 c5 c6 lb il ic hne
        gi_wp2
        refine hRd.mono ?_
        rintro e w4 (⟨rfl, hJ4, hk4⟩ | ⟨rfl, hJx4⟩)
        · have HK4 := Lib.hid hk4
          have HJ4 := Lib.hid hJ4
          clear hk4 hJ4 d0 d1 d2 d3 d4 d5 d6
          gi_wp2
          go_roundw
          case rel =>
            refine ⟨k + 1, by go_num, by omega, by rw [HFk.out (by trivial)]; exact HJ4.out, Nat.le_of_lt ?_⟩
            have h1 := HK4.out
            rw [Array.getElem?_eq_getElem HS3.out] at h1
            exact (Array.getElem?_eq_some_iff.1 h1).1
          case measure => simp [intOf]; omega
        · have HJ4 := Lib.hid hJx4
          clear hJx4 d0 d1 d2 d3 d4 d5 d6
          gi_wp2
          refine bodyPost_ret (results_none rfl _ _ _) rfl ?_
          exact ⟨⟨_, rfl⟩, .inr ⟨_, by have := HPk.out; rw [HFk.out (by trivial)] at this; exact this, HJ4.out⟩⟩
      | false =>
        gi_wp2
        refine ⟨trivial, ?_⟩
        refine (callsIn_wide.2 (HCk.out _ ?_)).mono ?_
        · exact (HJT.out _ _ (HJB.out _ _ _ HJ.out ((Below.refl _ _).alloc (Nat.le_refl _) _))).2
        rintro e w3 ⟨rfl, hb⟩
        have HB3 := Lib.hid (Below.andThen ((Below.refl wr.heap.size wr).alloc (Nat.le_refl _) _) hb)
        have HJ3 := Lib.hid (HJB.out _ _ _ HJ.out HB3.out)
        clear hb c0 c1 c2 c3 c4 c5 c6 lb il ic hne
        gi_wp2
        refine ⟨(fun f h => by cases h), ?_⟩
        gi_wp2
        go_roundw
        case rel => exact ⟨k + 1, by go_num, by omega, by rw [HGk.out (by trivial)]; exact HJ3.out, Nat.le_trans HSZ.out HB3.out.size⟩
        case measure => simp [intOf]; omega
    · obtain rfl : k = N := by omega
      gi_wp2
      go_end0
      exact ⟨⟨_, rfl⟩, .inl (by rw [HL.out]; exact HJ.out)⟩
set_option maxRecDepth 100000 in
set_option maxHeartbeats 4000000 in
theorem seqMon {l : List Po} (bn : Nat) (q : Po → Bool) (PC : World → Prop) (hC : ∀ p ∈ l, ∀ W, PC W → Calls Tryd.prog 42 (#[p.v] ++ #[ptV bn]) W fun e w' => e = .returned (.bool (q p)) ∧ Below W.heap.size W w')
    (n : Nat) (hn : 1 ≤ n) (o : Option Addr) (N c : Nat) (hl : l.length = N) (hN : N ≤ 1000000) (be bi : Nat) (B : Nat) :
    SeqCellY Fence.wide n Tryd.prog 69 #[ptV be, ptV bi] encP (flt q l l.length) B (fun W => W.heap.size = B) (fun W => YW o N c l be bi (fnC 42 #[ptV bn]) W ∧ PC W) := by
  intro lid J Jx W hZ hJT hJ hJx hY h0
  subst hZ
  have HC := Lib.hid hC
  have HJT := Lib.hid hJT
  have HY := Lib.hid hY
  have HJB := Lib.hid (show ∀ s A A', J s A → Below A.heap.size A A' → J s A' from fun s A A' h hb => hJ _ _ _ h (below_grown hb _) (below_keeps hb))
  have HFY := Lib.hid (fun k => flt_yes (q := q) (l := l) (k := k))
  have HFN := Lib.hid (fun k => flt_no (q := q) (l := l) (k := k))
  have HFM := Lib.hid (fun k n => flt_more (q := q) (l := l) (k := k) (n := n))
  have HL := Lib.hid hl
  have HBB := Lib.hid (Below.refl W.heap.size W)
  obtain ⟨el, ec, il, ic, -⟩ := (hJT _ _ h0).1
  have H0 := Lib.hid h0
  clear hC hJT hY hJ hJx h0 hl
  refine callsIn_of_wp Tryd.func69 rfl trivial ?_ rfl
  simp only [Tryd.ntmps69, List.size_toArray, List.length_cons, List.length_nil, Nat.reduceAdd, Nat.reduceSub, Array.replicate_succ, Array.replicate_zero, List.push_toArray, List.append_toArray, List.nil_append, List.cons_append, Array.append_empty]
  gi_wp2
  clear el ec il ic
  gi_loopw [8] (fun jv wr => ∃ k : Nat, jv = .int .i64 k ∧ k ≤ N ∧ J (flt q l k) wr ∧ W.heap.size ≤ wr.heap.size) (fun jv _ => N - (intOf jv).toNat)
  case atStart => exact ⟨0, rfl, Nat.zero_le _, H0.out, Nat.le_refl _⟩
  case round =>
    obtain ⟨k, rfl, hk, hJs, hsz⟩ := hrel
    rename World => wr
    have HJ := Lib.hid hJs
    have HSZ := Lib.hid hsz
    have HYW := Lib.hid (HJT.out _ _ hJs).1
    have HPC := Lib.hid (HJT.out _ _ hJs).2
    clear hJs hsz
    by_cases hlt : k < N
    · obtain ⟨bl, off, eo, -, -⟩ := HYW.out.sl.cells (fun e => by have := HL.out; rw [e] at this; simp at this; omega)
      have EO := Lib.hid eo
      have SL := Lib.hid (show Sl poE wr (some ⟨bl, off, none⟩) l from by rw [← eo]; exact HYW.out.sl)
      subst eo
      obtain ⟨lb, c0, c1, c2, c3, c4, c5, c6⟩ := sl_at SL.out (k := k) (by rw [HL.out]; exact hlt)
      have HCk := Lib.hid (fun W h => HC.out (at' l k) (at_mem (by rw [HL.out]; exact hlt)) W h)
      have HFk := Lib.hid (fun h => HFY.out k h)
      have HGk := Lib.hid (fun h => HFN.out k h)
      have HPk := Lib.hid (HFM.out (k + 1) l.length (by rw [HL.out]; omega))
      have HYk := Lib.hid (fun W1 h1 h2 h3 => HY.out (flt q l k) (k, at' l k) W1 h1 h2 h3)
      obtain ⟨x, hx⟩ : ∃ x, q (at' l k) = x := ⟨_, rfl⟩
      rw [hx] at HCk HFk HGk
      clear hx
      unfold encP Po.v at HYk
      unfold Po.v at HCk
      dsimp only at HYk
      generalize at' l k = p at *
      obtain ⟨kind, day, deb, cre, amt, sub, of⟩ := p
      dsimp only at *
      obtain ⟨-, -, il, ic, -⟩ := HYW.out
      have hne : wr.heap.size ≠ bi := by omega
      cases x with
      | true =>
        gi_wp2
        refine ⟨trivial, ?_⟩
        refine (callsIn_wide.2 (HCk.out _ ?_)).mono ?_
        · exact (HJT.out _ _ (HJB.out _ _ _ HJ.out ((Below.refl _ _).alloc (Nat.le_refl _) _))).2
        rintro e w3 ⟨rfl, hb⟩
        have HB3 := Lib.hid (Below.andThen ((Below.refl wr.heap.size wr).alloc (Nat.le_refl _) _) hb)
        have hs3 : wr.heap.size + 1 ≤ w3.heap.size := by have := hb.size; simp at this; omega
        obtain ⟨bp, ebp⟩ : ∃ b, b = wr.heap.size := ⟨_, rfl⟩
        have RP := Lib.hid (show Row w3 bp 27 [.int .i64 kind, .int .i64 day, .int .i64 deb, .int .i64 cre, .int .i64 amt, .int .i64 sub, .int .i64 of] from by rw [ebp]; exact (Row.new wr _ _).next hb)
        have HJ3 := Lib.hid (HJB.out _ _ _ HJ.out HB3.out)
        have HS3 := Lib.hid (show W.heap.size < w3.heap.size by have := HSZ.out; omega)
        obtain ⟨fn, tmps, assign, body, hyy, hRd⟩ := HYk.out w3 HJ3.out (by have := HPk.out; rw [HFk.out (by trivial)] at this; exact this) HS3.out
        rw [← ebp]
        clear hb ebp hs3
        have d0 := RP.out.cell 0
        have d1 := RP.out.cell 1
        have d2 := RP.out.cell 2
        have d3 := RP.out.cell 3
        have d4 := RP.out.cell 4
        have d5 := RP.out.cell 5
        have d6 := RP.out.cell 6
        simp only [List.getElem?_cons_zero, List.getElem?_cons_succ] at d0 d1 d2 d3 d4 d5 d6
        clear c0 c1 c2 c3 c4 c5 c6 lb il ic hne
        gi_wp2
        refine hRd.mono ?_
        rintro e w4 (⟨rfl, hJ4, hk4⟩ | ⟨rfl, hJx4⟩)
        · have HK4 := Lib.hid hk4
          have HJ4 := Lib.hid hJ4
          clear hk4 hJ4 d0 d1 d2 d3 d4 d5 d6
          gi_wp2
          go_roundw
          case rel =>
            refine ⟨k + 1, by go_num, by omega, by rw [HFk.out (by trivial)]; exact HJ4.out, Nat.le_of_lt ?_⟩
            have h1 := HK4.out
            rw [Array.getElem?_eq_getElem HS3.out] at h1
            exact (Array.getElem?_eq_some_iff.1 h1).1
          case measure => simp [intOf]; omega
        · have HJ4 := Lib.hid hJx4
          clear hJx4 d0 d1 d2 d3 d4 d5 d6
          gi_wp2
          refine bodyPost_ret (results_none rfl _ _ _) rfl ?_
          exact ⟨⟨_, rfl⟩, .inr ⟨_, by have := HPk.out; rw [HFk.out (by trivial)] at this; exact this, HJ4.out⟩⟩
      | false =>
        gi_wp2
        refine ⟨trivial, ?_⟩
        refine (callsIn_wide.2 (HCk.out _ ?_)).mono ?_
        · exact (HJT.out _ _ (HJB.out _ _ _ HJ.out ((Below.refl _ _).alloc (Nat.le_refl _) _))).2
        rintro e w3 ⟨rfl, hb⟩
        have HB3 := Lib.hid (Below.andThen ((Below.refl wr.heap.size wr).alloc (Nat.le_refl _) _) hb)
        have HJ3 := Lib.hid (HJB.out _ _ _ HJ.out HB3.out)
        clear hb c0 c1 c2 c3 c4 c5 c6 lb il ic hne
        gi_wp2
        refine ⟨(fun f h => by cases h), ?_⟩
        gi_wp2
        go_roundw
        case rel => exact ⟨k + 1, by go_num, by omega, by rw [HGk.out (by trivial)]; exact HJ3.out, Nat.le_trans HSZ.out HB3.out.size⟩
        case measure => simp [intOf]; omega
    · obtain rfl : k = N := by omega
      gi_wp2
      go_end0
      exact ⟨⟨_, rfl⟩, .inl (by rw [HL.out]; exact HJ.out)⟩
end Bk
end Go.Proofs.YtnhlhoijajhcjaaDoor
