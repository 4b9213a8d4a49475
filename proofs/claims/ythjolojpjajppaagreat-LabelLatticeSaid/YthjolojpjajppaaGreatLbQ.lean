/- label.Encode. -/
import Derived.Test.YthjolojpjajppaaGreatCodW
import Derived.Test.YthjolojpjajppaaGreatLbK
set_option linter.unusedVariables false
set_option linter.unusedSimpArgs false
set_option linter.unnecessarySimpa false
namespace Go.Proofs.YthjolojpjajppaaGreat
open Go.RowKit
namespace Lb
open Sq
open Cod (Wr Wo enI badI enI_len)
open Cdz (Iz iz_sv iz_new wr_own)
theorem enI_app (a b : List Int) : enI (a ++ b) = enI a ++ enI b := by unfold enI; simp
theorem badI_app (a b : List Int) : badI (a ++ b) = (badI a || badI b) := by unfold badI; simp
/-- while a label is written -/
structure St (w : World) (bX bw : Nat) (C : List Value) (W : World) (v : Value) (ns : List Int) : Prop where
  wr : Wr W bw v (enI ns) (badI ns)
  row : Row W bX 28 C
  below : Below w.heap.size w W
  le : w.heap.size ≤ bX
  lt : bX < bw
section
variable {w W : World} {bX bw : Nat} {C : List Value} {v : Value} {ns : List Int}
theorem St.next {W' : World} (h : St w bX bw C W v ns) (hb : Below W.heap.size W W') : St w bX bw C W' v ns := ⟨h.wr.next hb, h.row.next hb, Below.andThen h.below hb, h.le, h.lt⟩
theorem St.step {W' : World} {v' : Value} {ms : List Int} (h : St w bX bw C W v ns) (h1 : Wr W' bw v' (enI ns ++ enI ms) (badI ns || badI ms)) (h2 : Wo W W' bw v v') : St w bX bw C W' v' (ns ++ ms) := by
  have h3 := h.le
  have h4 := h.lt
  refine ⟨by rw [enI_app, badI_app]; exact h1, h2.row h.row (by omega) (fun e => by have := wr_own h.wr _ e; omega), h.below.trans (h2.below.mono (by omega)), h3, h4⟩
theorem St.ints (h : St w bX bw C W v ns) (ms : List Int) (N : Nat) (A : Array Value) (hA : A = (ms.map (Value.int .i64)).toArray) (hN : ms.length = N) (hl : ns.length + N ≤ 10000) :
    Calls Tryz.prog 82 #[ptV bw, .slice (some ⟨W.heap.size, 0, none⟩) N N] (W.alloc (.cells A 3)) fun x w' => x = .returned (.tuple #[]) ∧ ∃ v', St w bX bw C w' v' (ns ++ ms) ∧ Wo W w' bw v v' := by
  subst hA
  have hA := (Below.refl W.heap.size W).alloc (Nat.le_refl _) (.cells (ms.map (Value.int .i64)).toArray 3)
  refine (Cdz.Ints_any bw v _ _ _ N N ms _ hN (h.wr.next hA) (iz_new h.wr 3 ms) (by have := enI_len ns; omega)).mono ?_
  rintro e w' ⟨rfl, v', h1, h2⟩
  exact ⟨rfl, v', (h.next hA).step h1 h2, (Wo.of v hA (Nat.le_of_lt h.wr.1.lt)).trans h2⟩
theorem St.list (h : St w bX bw C W v ns) {o : Option Addr} {N c : Nat} {l : List Int} (hS : Sv intE w o N c l) (hl : ns.length + N + 1 ≤ 10000) :
    Calls Tryz.prog 83 #[ptV bw, .slice o N c] W fun x w' => x = .returned (.tuple #[]) ∧ ∃ v', St w bX bw C w' v' (ns ++ (N : Int) :: l) := by
  refine (Cdz.List_any bw v _ _ o N c l W hS.len h.wr (iz_sv hS h.below (by have := h.le; have := h.lt; omega) (fun j e => (wr_own h.wr j e).1)) (by have := enI_len ns; omega)).mono ?_
  rintro e w' ⟨rfl, v', h1, h2⟩
  exact ⟨rfl, v', h.step h1 h2⟩
end
/-- the numbers of a label's encoding -/
def encC (c : Cn) : List Int := [c.fact, c.cnt]
def encK (q : Int × List Int) : List Int := q.1 :: (q.2.length : Int) :: q.2
def encN (a : La) : List Int := [a.till] ++ ((a.ev.length : Int) :: a.ev) ++ [(a.cs.length : Int)] ++ a.cs.flatMap encC ++ [a.tr, a.cl, (a.ks.length : Int)] ++ a.ks.flatMap encK
theorem flat_take {α : Type} {f : α → List Int} {l : List α} {k : Nat} {x : α} (h : l[k]? = some x) : (l.take (k + 1)).flatMap f = (l.take k).flatMap f ++ f x := by
  rw [List.take_add_one, h]
  simp
theorem flat_len {α : Type} {f : α → List Int} {m : Nat} : ∀ {l : List α}, (∀ x ∈ l, (f x).length ≤ m) → (l.flatMap f).length ≤ m * l.length
  | [], _ => by simp
  | a :: l, h => by
    have h1 := h a (List.mem_cons_self ..)
    have h2 := flat_len (f := f) (m := m) (l := l) (fun x hx => h x (List.mem_cons_of_mem _ hx))
    simp only [List.flatMap_cons, List.length_append, List.length_cons]
    rw [Nat.mul_succ]
    omega
/-- what Encode returns -/
def encV (x : Lb) : Value := if vdL x then Cod.orV (enI (encN x.p)) (badI (encN x.p)) 100 else .tuple #[.string ⟨#[]⟩, .int .i64 100]
set_option maxRecDepth 100000 in
set_option maxHeartbeats 4000000 in
theorem encode_bad (x : Lb) (w : World) (h : x.ok w) (hv : vdL x = false) : Calls Tryz.prog 30 #[x.v] w fun e w' => e = .returned (.tuple #[.string ⟨#[]⟩, .int .i64 100]) ∧ Below w.heap.size w w' := by
  have CV := Lib.hid (fun W (h : x.ok W) => Valid_any x W h)
  have OK := Lib.hid h
  rw [hv] at CV
  unfold Lb.v at CV ⊢
  clear h hv
  go_enter Tryz.func30, Tryz.ntmps30
  go_wp2_with (go_at_call 14; (with_reducible refine Calls.mono (CV.out _ (OK.out.next (by (repeat' first | exact Below.refl _ _ | assumption | (refine below_drewN ?_ _) | (refine Below.drew ?_) | (refine Below.alloc ?_ ?_ _) | (refine Below.setCell ?_ ?_ _) | (simp; done) | (simp; omega) | omega)))) ?_); rintro e w2 ⟨rfl, hb⟩; have BB := Lib.hid (show Below w.heap.size w w2 from Below.andThen (by (repeat' first | exact Below.refl _ _ | assumption | (refine below_drewN ?_ _) | (refine Below.drew ?_) | (refine Below.alloc ?_ ?_ _) | (refine Below.setCell ?_ ?_ _) | (simp; done) | (simp; omega) | omega)) hb); clear hb)
  go_ret2
  exact ⟨rfl, BB.out⟩
set_option maxRecDepth 100000 in
set_option maxHeartbeats 8000000 in
theorem encode_ok (x : Lb) (w : World) (h : x.ok w) (hv : vdL x = true) : Calls Tryz.prog 30 #[x.v] w fun e w' => e = .returned (Cod.orV (enI (encN x.p)) (badI (encN x.p)) 100) ∧ Below w.heap.size w w' := by
  have CV := Lib.hid (fun W (h : x.ok W) => Valid_any x W h)
  have OK := Lib.hid h
  have LE := Lib.hid (vdL_le h hv)
  rw [hv] at CV
  have HN := Lib.hid (show encN x.p = [x.till] ++ ((x.en : Int) :: x.ev) ++ [(x.cn : Int)] ++ x.cs.flatMap encC ++ [x.tr, x.cl, (x.ln : Int)] ++ (x.lk.map pK).flatMap encK by
    unfold encN Lb.p
    rw [List.length_map, h.1.len, h.2.1.len, h.2.2.1.len])
  generalize encN x.p = NS at *
  obtain ⟨till, eo, en, ec, ev, co, cn, cc, cs, tr, cl, lo, ln, lc, lk⟩ := x
  unfold Lb.v at CV ⊢
  dsimp only at *
  clear h hv
  go_enter Tryz.func30, Tryz.ntmps30
  go_upto_region 4 with (go_at_call 14; (with_reducible refine Calls.mono (CV.out _ (OK.out.next (by (repeat' first | exact Below.refl _ _ | assumption | (refine below_drewN ?_ _) | (refine Below.drew ?_) | (refine Below.alloc ?_ ?_ _) | (refine Below.setCell ?_ ?_ _) | (simp; done) | (simp; omega) | omega)))) ?_); rintro e w2 ⟨rfl, hb⟩; have BB := Lib.hid (show Below w.heap.size w w2 from Below.andThen (by (repeat' first | exact Below.refl _ _ | assumption | (refine below_drewN ?_ _) | (refine Below.drew ?_) | (refine Below.alloc ?_ ?_ _) | (refine Below.setCell ?_ ?_ _) | (simp; done) | (simp; omega) | omega)) hb); have RX := Lib.hid ((Row.new w 28 [.int .i64 till, .slice eo en ec, .slice co cn cc, .int .i64 tr, .int .i64 cl, .slice lo ln lc]).next hb); clear hb)
  refine wp_named fun w3 hq => ?_
  obtain ⟨bX, eX⟩ : ∃ b, b = w.heap.size := ⟨_, rfl⟩
  obtain ⟨bw, ew⟩ : ∃ b, b = w2.heap.size := ⟨_, rfl⟩
  have S3 := Lib.hid (show St w bX bw [.int .i64 till, .slice eo en ec, .slice co cn cc, .int .i64 tr, .int .i64 cl, .slice lo ln lc] w3 (.slice none 0 0) [] from ⟨by rw [hq, ew]; exact Wr.new w2, by rw [hq, eX]; exact RX.out.alloc _, by rw [hq]; exact BB.out.alloc BB.out.size _, by omega, by have := RX.out.lt; omega⟩)
  rw [← ew, ← eX]
  clear hq eX ew RX BB CV
  have LX := Lib.hid (show en ≤ 20 ∧ cn ≤ 20 ∧ ln ≤ 20 ∧ ∀ q ∈ lk, q.n ≤ 20 from LE.out)
  have OKC := Lib.hid (show Sv cnE w co cn cc cs from OK.out.2.1)
  have OKL := Lib.hid (show Lv w lo ln lc lk from OK.out.2.2)
  have HE := Lib.hid (show ev.length = en ∧ cs.length = cn ∧ lk.length = ln from ⟨OK.out.1.len, OK.out.2.1.len, OK.out.2.2.1.len⟩)
  have RX := Lib.hid S3.out.row
  have x0 := RX.out.cell 0
  have x1 := RX.out.cell 1
  have x2 := RX.out.cell 2
  have x3 := RX.out.cell 3
  have x4 := RX.out.cell 4
  have x5 := RX.out.cell 5
  have lx := RX.out.lt
  simp only [List.getElem?_cons_zero, List.getElem?_cons_succ] at x0 x1 x2 x3 x4 x5
  have C4 := Lib.hid (S3.out.ints [till] 1 #[.int .i64 till] rfl rfl (by simp))
  go_upto_region 5 with (go_at_call 82; (with_reducible refine Calls.mono C4.out ?_); rintro e w4 ⟨rfl, v4, h4, -⟩; have S4 := Lib.hid h4; clear h4)
  clear x0 x1 x2 x3 x4 x5 lx
  clear RX
  have RX := Lib.hid S4.out.row
  have x0 := RX.out.cell 0
  have x1 := RX.out.cell 1
  have x2 := RX.out.cell 2
  have x3 := RX.out.cell 3
  have x4 := RX.out.cell 4
  have x5 := RX.out.cell 5
  have lx := RX.out.lt
  simp only [List.getElem?_cons_zero, List.getElem?_cons_succ] at x0 x1 x2 x3 x4 x5
  have C5 := Lib.hid (S4.out.list OK.out.1 (by have := LX.out.1; simp; omega))
  go_upto_region 6 with (go_at_call 83; (with_reducible refine Calls.mono C5.out ?_); rintro e w5 ⟨rfl, v5, h5⟩; have S5 := Lib.hid h5; clear h5)
  clear x0 x1 x2 x3 x4 x5 lx
  clear RX
  have RX := Lib.hid S5.out.row
  have x0 := RX.out.cell 0
  have x1 := RX.out.cell 1
  have x2 := RX.out.cell 2
  have x3 := RX.out.cell 3
  have x4 := RX.out.cell 4
  have x5 := RX.out.cell 5
  have lx := RX.out.lt
  simp only [List.getElem?_cons_zero, List.getElem?_cons_succ] at x0 x1 x2 x3 x4 x5
  have C6 := Lib.hid (S5.out.ints [(cn : Int)] 1 #[.int .i64 cn] rfl rfl (by have := LX.out.1; have := HE.out.1; simp; omega))
  go_upto_region 7 with (go_at_call 82; (with_reducible refine Calls.mono C6.out ?_); rintro e w6 ⟨rfl, v6, h6, -⟩; have S6 := Lib.hid h6; clear h6)
  clear x0 x1 x2 x3 x4 x5 lx
  clear RX
  have RX := Lib.hid S6.out.row
  have x0 := RX.out.cell 0
  have x1 := RX.out.cell 1
  have x2 := RX.out.cell 2
  have x3 := RX.out.cell 3
  have x4 := RX.out.cell 4
  have x5 := RX.out.cell 5
  have lx := RX.out.lt
  simp only [List.getElem?_cons_zero, List.getElem?_cons_succ] at x0 x1 x2 x3 x4 x5
  clear C4 C5 C6 S3 S4 S5
  generalize hM : [] ++ [till] ++ (en : Int) :: ev ++ [(cn : Int)] = M at S6
  have HM := Lib.hid (show M.length ≤ 60 by have := LX.out.1; have := HE.out.1; rw [← hM]; simp; omega)
  have HM2 := Lib.hid hM
  clear hM
  go_wp2_with fail
  go_loopw [27] (fun jv wr => ∃ (k : Nat) (v : Value), jv = .int .i64 k ∧ k ≤ cn ∧ St w bX bw [.int .i64 till, .slice eo en ec, .slice co cn cc, .int .i64 tr, .int .i64 cl, .slice lo ln lc] wr v (M ++ (cs.take k).flatMap encC)) (fun jv _ => cn - (intOf jv).toNat)
  case atStart => exact ⟨0, _, rfl, Nat.zero_le _, by simpa using S6.out⟩
  case round =>
    obtain ⟨k, v, rfl, hk, hS⟩ := hrel
    rename World => wr
    have SW := Lib.hid hS
    clear hS S6 x0 x1 x2 x3 x4 x5 lx RX
    have hc20 : cn ≤ 20 := LX.out.2.1
    by_cases hlt : k < cn
    · obtain ⟨x, hx⟩ := get_some HE.out.2.1 hlt
      obtain ⟨bc, offc, rfl, lbc, c0, c1⟩ := cn_at (OKC.out.next SW.out.below) hx
      have HT := Lib.hid (flat_take (f := encC) hx)
      have HFL := Lib.hid (flat_len (f := encC) (m := 2) (l := cs.take k) (fun x _ => by simp [encC]))
      have HKL : (cs.take k).length = k := by rw [List.length_take, HE.out.2.1]; omega
      rw [HKL] at HFL
      clear hx HKL
      obtain ⟨xf, xc⟩ := x
      dsimp only at c0 c1
      have C7 := Lib.hid ((SW.out.next ((Below.refl _ wr).alloc (Nat.le_refl _) (.cells #[.int .i64 xf, .int .i64 xc] 67))).ints [xf, xc] 2 #[.int .i64 xf, .int .i64 xc] rfl rfl (by have := HM.out; have := HFL.out; have := LX.out.2.1; rw [List.length_append]; omega))
      rw [World.size_alloc] at C7
      go_wp2_with (go_at_call 82; (with_reducible refine Calls.mono C7.out ?_); rintro e w7 ⟨rfl, v7, h7, -⟩; have S7 := Lib.hid h7; clear h7)
      go_roundw
      case rel => exact ⟨k + 1, v7, by go_num, by omega, by rw [HT.out, ← List.append_assoc]; exact S7.out⟩
      case measure => first | (simp [intOf]; done) | (simp [intOf]; omega)
    · obtain rfl : k = cn := by omega
      have S8 := Lib.hid (show St w bX bw [.int .i64 till, .slice eo en ec, .slice co k cc, .int .i64 tr, .int .i64 cl, .slice lo ln lc] wr v (M ++ cs.flatMap encC) by have := SW.out; rw [List.take_of_length_le (by have := HE.out.2.1; omega)] at this; exact this)
      have HFC := Lib.hid (flat_len (f := encC) (m := 2) (l := cs) (fun x _ => by simp [encC]))
      clear SW hk hlt
      have RX := Lib.hid S8.out.row
      have x0 := RX.out.cell 0
      have x1 := RX.out.cell 1
      have x2 := RX.out.cell 2
      have x3 := RX.out.cell 3
      have x4 := RX.out.cell 4
      have x5 := RX.out.cell 5
      have lx := RX.out.lt
      simp only [List.getElem?_cons_zero, List.getElem?_cons_succ] at x0 x1 x2 x3 x4 x5
      have C9 := Lib.hid (S8.out.ints [tr, cl, (ln : Int)] 3 #[.int .i64 tr, .int .i64 cl, .int .i64 ln] rfl rfl (by have := HM.out; have := HFC.out; have := HE.out.2.1; have := LX.out.2.1; rw [List.length_append]; omega))
      go_upto_region 13 with (go_at_call 82; (with_reducible refine Calls.mono C9.out ?_); rintro e w9 ⟨rfl, v9, h9, -⟩; have S9 := Lib.hid h9; clear h9)
      clear x0 x1 x2 x3 x4 x5 lx
      clear RX C9 S8
      have RX := Lib.hid S9.out.row
      have x0 := RX.out.cell 0
      have x1 := RX.out.cell 1
      have x2 := RX.out.cell 2
      have x3 := RX.out.cell 3
      have x4 := RX.out.cell 4
      have x5 := RX.out.cell 5
      have lx := RX.out.lt
      simp only [List.getElem?_cons_zero, List.getElem?_cons_succ] at x0 x1 x2 x3 x4 x5
      generalize hM2 : M ++ cs.flatMap encC ++ [tr, cl, (ln : Int)] = M2 at S9
      have HML := Lib.hid (show M2.length ≤ 110 by have := HM.out; have := HFC.out; have := HE.out.2.1; have := LX.out.2.1; rw [← hM2]; simp only [List.length_append, List.length_cons, List.length_nil]; omega)
      have HMM := Lib.hid hM2
      clear hM2
      go_wp2_with fail
      go_loopw [50] (fun jv wr => ∃ (j : Nat) (v : Value), jv = .int .i64 j ∧ j ≤ ln ∧ St w bX bw [.int .i64 till, .slice eo en ec, .slice co k cc, .int .i64 tr, .int .i64 cl, .slice lo ln lc] wr v (M2 ++ (lk.take j).flatMap fun q => encK (pK q))) (fun jv _ => ln - (intOf jv).toNat)
      case atStart => exact ⟨0, _, rfl, Nat.zero_le _, by simpa using S9.out⟩
      case round =>
        obtain ⟨j, v, rfl, hj, hS⟩ := hrel
        rename World => wq
        have SW := Lib.hid hS
        clear hS S9 x0 x1 x2 x3 x4 x5 lx RX
        have hl20 : ln ≤ 20 := LX.out.2.2.1
        by_cases hlt : j < ln
        · obtain ⟨x, hx⟩ := get_some HE.out.2.2 hlt
          obtain ⟨bl, offl, rfl, lbl, c0, c1⟩ := lk_at (OKL.out.1.next SW.out.below) hx
          have HT := Lib.hid (flat_take (f := fun q => encK (pK q)) hx)
          have OKX := Lib.hid (OKL.out.2 x (List.mem_of_getElem? hx))
          have HXL := Lib.hid (LX.out.2.2.2 x (List.mem_of_getElem? hx))
          have HFL := Lib.hid (flat_len (f := fun q => encK (pK q)) (m := 22) (l := lk.take j) (fun y hy => by
            have h1 := (OKL.out.2 y (List.mem_of_mem_take hy)).len
            have h2 := LX.out.2.2.2 y (List.mem_of_mem_take hy)
            simp only [encK, pK, List.length_cons]
            omega))
          have HKL : (lk.take j).length = j := by rw [List.length_take, HE.out.2.2]; omega
          rw [HKL] at HFL
          clear hx HKL
          obtain ⟨xneed, xo, xn, xc, xkeys⟩ := x
          dsimp only at c0 c1 HXL
          have OKY := Lib.hid (show Sv intE w xo xn xc xkeys from OKX.out)
          have HTK := Lib.hid (show encK (pK ⟨xneed, xo, xn, xc, xkeys⟩) = [xneed] ++ (xn : Int) :: xkeys by simp only [encK, pK]; rw [OKY.out.len]; rfl)
          have HBD := Lib.hid (show (M2 ++ (lk.take j).flatMap fun q => encK (pK q)).length + 30 ≤ 10000 by have := HML.out; have := HFL.out; have := LX.out.2.2.1; rw [List.length_append]; omega)
          have C7 := Lib.hid ((SW.out.next ((Below.refl _ wq).alloc (Nat.le_refl _) (.cells #[.int .i64 xneed, .slice xo xn xc] 70))).ints [xneed] 1 #[.int .i64 xneed] rfl rfl (by have := HBD.out; omega))
          rw [World.size_alloc] at C7
          have HBW := Lib.hid (show wq.heap.size ≠ bw ∧ ∀ i, v.ownBlock = some i → i < wq.heap.size from ⟨by have := SW.out.wr.1.lt; omega, fun i hi => (wr_own SW.out.wr i hi).2⟩)
          go_wp2_with (first
            | (go_at_call 82; (with_reducible refine Calls.mono C7.out ?_); rintro e w7 ⟨rfl, v7, h7, hO⟩; have S7 := Lib.hid h7; have RQ := Lib.hid (hO.row (Row.new wq 70 [.int .i64 xneed, .slice xo xn xc]) HBW.out.1 (fun e => by have := HBW.out.2 _ e; omega)); clear h7 hO; have q1 := RQ.out.cell 1; have lq := RQ.out.lt; simp only [List.getElem?_cons_zero, List.getElem?_cons_succ] at q1)
            | (go_at_call 83; (with_reducible refine Calls.mono (S7.out.list OKY.out (by have := HBD.out; have := HXL.out; rw [List.length_append]; simp only [List.length_cons, List.length_nil]; omega)) ?_); rintro e w8 ⟨rfl, v8, h8⟩; have S8 := Lib.hid h8; clear h8))
          go_roundw
          case rel => exact ⟨j + 1, v8, by go_num, by omega, by rw [HT.out, HTK.out, ← List.append_assoc, ← List.append_assoc]; exact S8.out⟩
          case measure => first | (simp [intOf]; done) | (simp [intOf]; omega)
        · obtain rfl : j = ln := by omega
          have HNS := Lib.hid (show NS = M2 ++ (lk.take j).flatMap fun q => encK (pK q) by
            rw [HN.out, ← HMM.out, ← HM2.out, List.take_of_length_le (by have := HE.out.2.2; omega), List.flatMap_map]
            rfl)
          rw [← HNS.out] at SW
          have CO := Lib.hid (Cod.Or_any bw v _ _ 100 wq SW.out.wr)
          have HB := Lib.hid SW.out.below
          obtain ⟨fl, hfl⟩ : ∃ fl, badI NS = fl := ⟨_, rfl⟩
          rw [hfl] at CO
          have HFF := Lib.hid hfl
          clear hfl
          cases fl with
          | true =>
            go_wp2_with (go_at_call 84; (with_reducible refine Calls.mono CO.out ?_); rintro e w8 ⟨rfl, hb⟩; have HB8 := Lib.hid (Below.andThen HB.out hb); clear hb; simp only [Cod.orV])
            go_ret2
            exact ⟨by rw [HFF.out]; rfl, HB8.out⟩
          | false =>
            go_wp2_with (go_at_call 84; (with_reducible refine Calls.mono CO.out ?_); rintro e w8 ⟨rfl, hb⟩; have HB8 := Lib.hid (Below.andThen HB.out hb); clear hb; simp only [Cod.orV])
            go_ret2
            exact ⟨by rw [HFF.out]; rfl, HB8.out⟩
theorem Encode_any (x : Lb) (w : World) (h : x.ok w) : Calls Tryz.prog 30 #[x.v] w fun e w' => e = .returned (encV x) ∧ Below w.heap.size w w' := by
  unfold encV
  cases hv : vdL x with
  | true => exact encode_ok x w h hv
  | false => exact encode_bad x w h hv
end Lb
end Go.Proofs.YthjolojpjajppaaGreat
