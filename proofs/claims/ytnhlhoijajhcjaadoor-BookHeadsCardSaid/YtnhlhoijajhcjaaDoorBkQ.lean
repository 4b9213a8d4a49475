/- slices of numbers; Statement; Balance. -/
import Derived.Test.YtnhlhoijajhcjaaDoorBkP
set_option linter.unusedVariables false
set_option linter.unusedSimpArgs false
set_option linter.unnecessarySimpa false
namespace Go.Proofs.YtnhlhoijajhcjaaDoor
open Go.RowKit
namespace Bk
open Sq
theorem at_of_mem {l : List Po} {p : Po} (h : p ∈ l) : ∃ i, i < l.length ∧ p = at' l i := by
  obtain ⟨i, hi, e⟩ := List.getElem_of_mem h
  refine ⟨i, hi, ?_⟩
  have h2 := at_get hi
  rw [List.getElem?_eq_getElem hi] at h2
  rw [← e]
  exact Option.some.inj h2
def intE : El Int := ⟨1, fun x => [.int .i64 x], by decide, fun _ => rfl, fun x u hu => by simp at hu; rw [hu]; rfl⟩
theorem tyI : Ty intE 46 3 := ty_mk (z := .int .i64 0) (b := 8) Tryd.underlying46 (by kernel_rfl) (by decide) rfl
theorem row_ints {w : World} {b n : Nat} {t : TypeId} (g : Nat → Int) (hr : Row w b t (balC g)) (hn : n ≤ 12) : Sl intE w (some ⟨b, 0, none⟩) ((List.range n).map g) := by
  refine .inr ⟨b, 0, rfl, hr.lt, fun j x hx i v hv => ?_⟩
  rw [List.getElem?_map] at hx
  by_cases hj : j < n
  · rw [List.getElem?_range hj] at hx
    cases hx
    have hi : i = 0 := by have := (List.getElem?_eq_some_iff.1 hv).1; simp [intE] at this; omega
    subst hi
    cases hv
    have := hr.cell j
    rw [balC_at g (by omega)] at this
    show w.cell? ⟨b, 0 + j * 1 + 0, none⟩ = _
    rw [show 0 + j * 1 + 0 = j by omega]
    exact this
  · rw [List.getElem?_eq_none (by simp; omega)] at hx
    cases hx
set_option maxRecDepth 100000 in
set_option maxHeartbeats 4000000 in
theorem cloneI_any (a : Addr) (n c : Nat) (l : List Int) (w : World) (hl : l.length = n) (hn : n ≤ 2 ^ 35) (hS : Sl intE w (some a) l) :
    Calls Tryd.prog 44 #[.slice (some a) n c] w fun e w' => ∃ v, e = .returned v ∧ Sq.Own intE 3 w' w.heap.size v l ∧ Below w.heap.size w w' := by
  have SL := Lib.hid hS
  clear hS
  have he : ∀ w : World, (binOp .eql 46 (.slice (some a) n c) (.slice none 0 0)).run Tryd.prog w = .ok (.bool false) w := fun _ => by kernel_rfl
  go_enter Tryd.func44, Tryd.ntmps44
  go_wp2_with (at_builtin; refine wpList_append tyI rfl _ _ rfl w.heap.size (.slice (some ⟨w.heap.size, 0, none⟩) 0 0) [] rfl (made_own intE 3 w [] (Nat.le_refl _) rfl rfl (by decide)) (some a) n c l rfl hl (fun h => by cases h) (SL.out.next ((Below.refl _ _).alloc (Nat.le_refl _) _)) (by simp; omega) (by simp) ?_; intro v' w' ho hg; have HO := Lib.hid (And.intro ho (grown_below (Below.refl w.heap.size w) hg (made_own intE 3 w [] (Nat.le_refl _) rfl rfl (by decide)).block)); clear ho hg)
  go_ret
  exact ⟨_, rfl, HO.out.1, HO.out.2⟩
abbrev errI : Value := .tuple #[.slice none 0 0, .int .i64 310]
set_option maxRecDepth 100000 in
set_option maxHeartbeats 4000000 in
theorem statement_bad (acc cl m : Int) (o : Option Addr) (N c : Nat) (l : List Po) (w : World) (hl : l.length = N) (hc : N ≤ c) (hc2 : c ≤ 9223372036854775807) (hS : Sl poE w o l) (h : ¬ (vd acc l cl = true ∧ 0 ≤ m ∧ m < 12)) :
    Calls Tryd.prog 18 #[bookV acc o N c cl, .int .i64 m] w fun e w' => e = .returned errI ∧ Below w.heap.size w w' := by
  have CV := Lib.hid (fun W h => Valid_any acc cl o N c l W hl hc hc2 h)
  have CI := Lib.hid (fun W => isMonth_any m W)
  have SL := Lib.hid hS
  have HX := Lib.hid (show vd acc l cl = true → decide (0 ≤ m ∧ m < 12) = false from fun h1 => decide_eq_false fun h2 => h ⟨h1, h2⟩)
  obtain ⟨G, hG⟩ : ∃ G, vd acc l cl = G := ⟨_, rfl⟩
  rw [hG] at CV HX
  obtain ⟨M, hM⟩ : ∃ M, decide (0 ≤ m ∧ m < 12) = M := ⟨_, rfl⟩
  rw [hM] at CI HX
  clear hG hM hS h hl
  go_enter Tryd.func18, Tryd.ntmps18
  go_upto_region 1 with (fail)
  refine wp_named fun w1 hq => ?_
  obtain ⟨bA, eA⟩ : ∃ b, b = w.heap.size := ⟨_, rfl⟩
  obtain ⟨bm, em⟩ : ∃ b, b = w.heap.size + 1 := ⟨_, rfl⟩
  obtain ⟨r0, r1, hB, hs⟩ := rows2 w 24 3 [.int .i64 acc, .slice o N c, .int .i64 cl] [.int .i64 m] w1 hq
  rw [← em, ← eA]
  rw [← eA] at r0
  rw [← em] at r1
  have BB := Lib.hid hB
  replace SL := Lib.hid (SL.out.next hB)
  have RM := Lib.hid r1
  have a0 := r0.cell 0
  have a1 := r0.cell 1
  have a2 := r0.cell 2
  simp only [List.getElem?_cons_zero, List.getElem?_cons_succ] at a0 a1 a2
  have la := r0.lt
  clear hq eA em hB hs r0 r1
  go_wp2_with fail
  refine Calls.mono (CV.out _ SL.out) ?_
  rintro e w2 ⟨rfl, hb⟩
  have RM2 := Lib.hid (RM.out.next hb)
  have BB2 := Lib.hid (Below.andThen BB.out hb)
  clear a0 a1 a2 la hb
  have m0 := RM2.out.cell 0
  simp only [List.getElem?_cons_zero] at m0
  have lm := RM2.out.lt
  cases G with
  | false =>
    go_wp2_with fail
    refine bodyPost_ret (v := errI) (by first | (simp [results, Tryd.results18, go_sem]; done) | simp [results, Tryd.results18, go_sem, *]) rfl ⟨rfl, BB2.out⟩
  | true =>
    obtain rfl := HX.out rfl
    go_wp2_with fail
    with_reducible refine Calls.mono (CI.out _) ?_
    rintro e w3 ⟨rfl, rfl⟩
    go_wp2_with fail
    refine bodyPost_ret (v := errI) (by first | (simp [results, Tryd.results18, go_sem]; done) | simp [results, Tryd.results18, go_sem, *]) rfl ⟨rfl, BB2.out⟩
set_option maxRecDepth 100000 in
theorem slice_bal (b A : Nat) (h : A ≤ 12) (w : World) : (Instr.sliceAt 82 (.pointer (some ⟨b, 0, none⟩)) none (some (.int .i64 A)) none).run Tryd.prog w = .ok (.slice (some ⟨b, 0, none⟩) A 12) w := by
  have hl : Tryd.prog.arrayLen 82 = 12 := by kernel_rfl
  have key := run_sliceAt_array_h (P := Tryd.prog) (t := 82) (a := ⟨b, 0, none⟩) (w := w) Tryd.underlying82 .i64 A (by omega) (by rw [hl]; omega)
  have hs : (sizeOf (Tryd.prog.elem 82)).run Tryd.prog w = .ok 1 w := rfl
  rw [key, hl, hs]
  simp [slicedAt, Addr.add]
set_option maxRecDepth 100000 in
set_option maxHeartbeats 4000000 in
theorem statement_ok (acc cl m : Int) (A : Nat) (hA : acc = A) (o : Option Addr) (N c : Nat) (l : List Po) (w : World) (hl : l.length = N) (hc : N ≤ c) (hc2 : c ≤ 9223372036854775807) (hS : Sl poE w o l) (hv : vd acc l cl = true) (h1 : 0 ≤ m) (h2 : m < 12) (hd : ∀ p ∈ l, inI p.day) :
    Calls Tryd.prog 18 #[bookV acc o N c cl, .int .i64 m] w fun e w' => ∃ o' c', e = .returned (.tuple #[.slice o' A c', .int .i64 0]) ∧ Sq.Own intE 3 w' w.heap.size (.slice o' A c') ((List.range A).map (sumP (flt (toN m) l l.length))) ∧ Below w.heap.size w w' := by
  obtain ⟨⟨hb1, hb2, -, -, hb5⟩, hok⟩ := vd_iff.1 hv
  have hf : ∀ p ∈ l, FmP acc p := fun p hp => by
    obtain ⟨i, hi, rfl⟩ := at_of_mem hp
    exact (hok i hi).1
  have CV := Lib.hid (fun W h => Valid_any acc cl o N c l W hl hc hc2 h)
  rw [hv] at CV
  have CI := Lib.hid (fun W => isMonth_any m W)
  rw [decide_eq_true (show 0 ≤ m ∧ m < 12 from ⟨h1, h2⟩)] at CI
  have CS := Lib.hid (fun bn W hb hS => sum_any acc m hb2 bn o N c l W hl (by omega) hf hd hb hS)
  have SL := Lib.hid hS
  have HA := Lib.hid (show 2 ≤ A ∧ A ≤ 12 by omega)
  have hA2 : A ≤ 12 := HA.out.2
  subst hA
  obtain ⟨g, hg⟩ : ∃ g, sumP (flt (toN m) l l.length) = g := ⟨_, rfl⟩
  rw [hg] at CS ⊢
  have CC := Lib.hid (fun a W h => cloneI_any a A 12 ((List.range A).map g) W (by simp) (by omega) h)
  have S12 := Lib.hid (show (Tryd.prog.info? 82).map (·.size) = some (balC g).toArray.size by rw [infoBal, List.size_toArray, balC_len])
  have O12 := Lib.hid (balC_one g)
  clear hg hb1 hb2 hb5 hok hf hv h1 h2 hd hS hl
  go_enter Tryd.func18, Tryd.ntmps18
  go_upto_region 1 with (fail)
  refine wp_named fun w1 hq => ?_
  obtain ⟨bA, eA⟩ : ∃ b, b = w.heap.size := ⟨_, rfl⟩
  obtain ⟨bm, em⟩ : ∃ b, b = w.heap.size + 1 := ⟨_, rfl⟩
  obtain ⟨r0, r1, hB, hs⟩ := rows2 w 24 3 [.int .i64 A, .slice o N c, .int .i64 cl] [.int .i64 m] w1 hq
  rw [← em, ← eA]
  rw [← eA] at r0
  rw [← em] at r1
  have BB := Lib.hid hB
  replace SL := Lib.hid (SL.out.next hB)
  have RM := Lib.hid r1
  have RA := Lib.hid r0
  have a0 := r0.cell 0
  have a1 := r0.cell 1
  have a2 := r0.cell 2
  simp only [List.getElem?_cons_zero, List.getElem?_cons_succ] at a0 a1 a2
  have la := r0.lt
  clear hq eA em hB hs r0 r1
  go_wp2_with fail
  refine Calls.mono (CV.out _ SL.out) ?_
  rintro e w2 ⟨rfl, hb⟩
  replace RM := Lib.hid (RM.out.next hb)
  replace RA := Lib.hid (RA.out.next hb)
  replace SL := Lib.hid (SL.out.next hb)
  have BB2 := Lib.hid (Below.andThen BB.out hb)
  clear a0 a1 a2 la hb
  have m0 := RM.out.cell 0
  simp only [List.getElem?_cons_zero] at m0
  have lm := RM.out.lt
  go_wp2_with fail
  with_reducible refine Calls.mono (CI.out _) ?_
  rintro e w3 ⟨rfl, rfl⟩
  clear m0 lm
  have a0 := RA.out.cell 0
  have a1 := RA.out.cell 1
  simp only [List.getElem?_cons_zero, List.getElem?_cons_succ] at a0 a1
  have la := RA.out.lt
  go_wp2_with fail
  refine Calls.mono (CS.out _ _ ⟨RM.out.lt, RM.out.cell 0⟩ SL.out) ?_
  rintro e w3 ⟨rfl, hb⟩
  replace RA := Lib.hid (RA.out.next hb)
  have BB3 := Lib.hid (Below.andThen BB2.out hb)
  clear a0 a1 la hb
  obtain ⟨bs, es⟩ : ∃ b, b = w3.heap.size := ⟨_, rfl⟩
  have HN := Lib.hid (show (w3.alloc (.cells (balC fun _ => 0).toArray 82)).heap[w3.heap.size]? = some (.cells (balC fun _ => 0).toArray 82 (0, 0)) from heap_alloc_last w3 _)
  have LC := Lib.hid (show (balC fun _ => 0).toArray.size = (balC g).toArray.size by rw [List.size_toArray, List.size_toArray, balC_len, balC_len])
  have HW := Lib.hid (show (w3.alloc (.cells (balC fun _ => 0).toArray 82)).setRow w3.heap.size (balC g).toArray = w3.alloc (.cells (balC g).toArray 82) from World.setRow_alloc_new _ _ _ _)
  go_upto_region 4 with (refine wpList_store_row rfl _ _ _ rfl w3.heap.size (balC g).toArray rfl rfl _ _ HN.out S12.out LC.out O12.out ?_)
  refine wp_named fun w4 hq => ?_
  have hq2 : w4 = w3.alloc (.cells (balC g).toArray 82) := by rw [hq]; exact HW.out
  have RS := Lib.hid (show Row w4 bs 82 (balC g) from by rw [hq2, es]; exact Row.new w3 _ _)
  have hB : Below w3.heap.size w3 w4 := by rw [hq2]; (repeat' first | exact Below.refl _ _ | assumption | (refine below_drewN ?_ _) | (refine Below.drew ?_) | (refine Below.alloc ?_ ?_ _) | (refine Below.setCell ?_ ?_ _) | (simp; done) | (simp; omega) | omega)
  replace RA := Lib.hid (RA.out.next hB)
  have BB4 := Lib.hid (Below.andThen BB3.out hB)
  rw [← es]
  clear hq hq2 hB es HN LC HW
  have SI := Lib.hid (row_ints (n := A) g RS.out hA2)
  have a0 := RA.out.cell 0
  simp only [List.getElem?_cons_zero, List.getElem?_cons_succ] at a0
  have la := RA.out.lt
  have ls := RS.out.lt
  have hsl := slice_bal bs A hA2
  go_wp2_with fail
  refine Calls.mono (CC.out _ _ SI.out) ?_
  rintro e w5 ⟨v, rfl, hO, hb⟩
  obtain ⟨o', c', rfl, -, -, -, -⟩ := hO.vw
  rw [show ((List.range A).map g).length = A by simp] at hO ⊢
  have HO := Lib.hid hO
  have BB5 := Lib.hid (Below.andThen BB4.out hb)
  have HLE := Lib.hid BB4.out.size
  clear hO hb a0 la ls
  go_wp2_with fail
  refine bodyPost_ret (v := .tuple #[.slice o' A c', .int .i64 0]) (by first | (simp [results, Tryd.results18, go_sem]; done) | simp [results, Tryd.results18, go_sem, *]) rfl ⟨o', c', rfl, Sq.Own.lower HO.out HLE.out, BB5.out⟩
end Bk
end Go.Proofs.YtnhlhoijajhcjaaDoor
