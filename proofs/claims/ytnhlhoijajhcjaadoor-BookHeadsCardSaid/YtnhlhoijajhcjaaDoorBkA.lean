/- effect, plus. -/
import Derived.Test.YtnhlhoijajhcjaaDoorBkMath
import Derived.Deep.WholeRow
set_option linter.unusedVariables false
set_option linter.unusedSimpArgs false
set_option linter.unnecessarySimpa false
namespace Go.Proofs.YtnhlhoijajhcjaaDoor
open Go.RowKit
namespace Bk
open Sq
theorem infoBal : (Tryd.prog.info? 82).map (·.size) = some 12 := by kernel_rfl
set_option maxRecDepth 100000 in
theorem effect_any (p : Po) (w : World) (hc : 0 ≤ p.cre ∧ p.cre < 12) (hd : 0 ≤ p.deb ∧ p.deb < 12) (ha : 0 ≤ p.amt ∧ p.amt ≤ 1000000000000) : Calls Tryd.prog 50 #[p.v] w fun e w' => e = .returned (.agg (balC (eff p)).toArray) ∧ Below w.heap.size w w' := by
  obtain ⟨kind, day, deb, cre, amt, sub, of⟩ := p
  dsimp only at hc hd ha
  obtain ⟨c, rfl⟩ : ∃ c : Nat, cre = c := ⟨cre.toNat, by omega⟩
  obtain ⟨d, rfl⟩ : ∃ d : Nat, deb = d := ⟨deb.toNat, by omega⟩
  have HE := Lib.hid (show balC (fun j => if j = d then (if d = c then amt else 0) - amt else if j = c then amt else 0) = balC (eff ⟨kind, day, d, c, amt, sub, of⟩) from balC_ext fun t _ => by
    unfold eff
    dsimp only
    by_cases h1 : t = d <;> by_cases h2 : t = c <;> by_cases h3 : d = c <;> simp_all <;> omega)
  show Calls Tryd.prog 50 #[.agg #[.int .i64 kind, .int .i64 day, .int .i64 d, .int .i64 c, .int .i64 amt, .int .i64 sub, .int .i64 of]] w _
  go_enter Tryd.func50, Tryd.ntmps50
  go_upto_region 2 with (fail)
  refine wp_named fun w1 hq => ?_
  obtain ⟨b1, e1⟩ : ∃ b, b = w.heap.size := ⟨_, rfl⟩
  obtain ⟨b2, e2⟩ : ∃ b, b = w.heap.size + 1 := ⟨_, rfl⟩
  obtain ⟨b3, e3⟩ : ∃ b, b = w.heap.size + 1 + 1 := ⟨_, rfl⟩
  have R1 := Lib.hid (show Row w1 b1 27 [.int .i64 kind, .int .i64 day, .int .i64 d, .int .i64 c, .int .i64 amt, .int .i64 sub, .int .i64 of] from by rw [hq, e1]; exact ((Row.new w _ _).alloc _).alloc _)
  have R2 := Lib.hid (show Row w1 b2 82 (balC fun _ => 0) from by
    rw [hq, e2]
    have := (Row.new (w.alloc (.cells #[.int .i64 kind, .int .i64 day, .int .i64 d, .int .i64 c, .int .i64 amt, .int .i64 sub, .int .i64 of] 27)) 82 (balC fun _ => 0)).alloc (.cells (balC fun _ => 0).toArray 82)
    rw [World.size_alloc] at this
    exact this)
  have R3 := Lib.hid (show Row w1 b3 82 (balC fun _ => 0) from by
    rw [hq, e3]
    have := Row.new ((w.alloc (.cells #[.int .i64 kind, .int .i64 day, .int .i64 d, .int .i64 c, .int .i64 amt, .int .i64 sub, .int .i64 of] 27)).alloc (.cells (balC fun _ => 0).toArray 82)) 82 (balC fun _ => 0)
    rw [World.size_alloc, World.size_alloc] at this
    exact this)
  have BB := Lib.hid (show Below w.heap.size w w1 from by rw [hq]; (repeat' first | exact Below.refl _ _ | assumption | (refine below_drewN ?_ _) | (refine Below.drew ?_) | (refine Below.alloc ?_ ?_ _) | (refine Below.setCell ?_ ?_ _) | (simp; done) | (simp; omega) | omega))
  have HS := Lib.hid (show w.heap.size ≤ b3 ∧ w.heap.size ≤ b2 ∧ b1 ≠ b3 ∧ b2 ≠ b3 by omega)
  rw [← e3, ← e2, ← e1]
  clear hq e1 e2 e3
  have c3 := R1.out.cell 3
  have c4 := R1.out.cell 4
  have c2 := R1.out.cell 2
  simp only [List.getElem?_cons_zero, List.getElem?_cons_succ] at c2 c3 c4
  have l1 := R1.out.lt
  have l3 := R3.out.lt
  have cz := R3.out.cell c
  rw [balC_at _ (by omega)] at cz
  refine wp_region_kin_tail 8 (by kernel_rfl) (by kernel_rfl) w1.heap.size 0 (by simp) (fun hk => ?_)
  simp only [List.take_succ_cons, List.take_zero, List.drop_succ_cons, List.drop_zero]
  repeat (go_big_quiet_step (fail))
  refine wpQuiet_nil ?_
  clear hk c3 c4 c2 l1 l3 cz
  intro W2 hb
  replace R1 := Lib.hid (R1.out.next hb)
  replace R2 := Lib.hid (R2.out.next hb)
  replace R3 := Lib.hid (R3.out.next hb)
  replace BB := Lib.hid (Below.andThen BB.out hb)
  clear hb
  have l3 := R3.out.lt
  have cz := R3.out.cell c
  have fz := R3.out.frozen c
  rw [balC_at _ (by omega)] at cz
  go_upto_region 3 with (fail)
  clear l3 cz fz
  refine wp_named fun w3 hq => ?_
  replace R1 := Lib.hid (show Row w3 b1 _ _ from by rw [hq]; exact R1.out.other HS.out.2.2.1 _ _)
  replace R2 := Lib.hid (show Row w3 b2 _ _ from by rw [hq]; exact R2.out.other HS.out.2.2.2 _ _)
  replace R3 := Lib.hid (show Row w3 b3 82 (balC fun j => if j = c then amt else 0) from by rw [hq, ← balC_set (fun _ => 0) c amt]; exact R3.out.set c _)
  replace BB := Lib.hid (show Below w.heap.size w w3 from by rw [hq]; exact BB.out.setCell (p := ⟨b3, c, none⟩) HS.out.1 _)
  clear hq
  obtain ⟨x, hx⟩ : ∃ x, (if d = c then amt else 0) = x := ⟨_, rfl⟩
  have hx1 : 0 ≤ x ∧ x ≤ 1000000000000 := by rw [← hx]; split <;> omega
  have c2 := R1.out.cell 2
  have c4 := R1.out.cell 4
  simp only [List.getElem?_cons_zero, List.getElem?_cons_succ] at c2 c4
  have l1 := R1.out.lt
  have l3 := R3.out.lt
  have cz := R3.out.cell d
  rw [balC_at _ (by omega)] at cz
  try dsimp only at cz
  rw [hx] at cz
  have HX := Lib.hid hx
  clear hx
  refine wp_region_kin_tail 8 (by kernel_rfl) (by kernel_rfl) w3.heap.size 0 (by simp) (fun hk => ?_)
  simp only [List.take_succ_cons, List.take_zero, List.drop_succ_cons, List.drop_zero]
  repeat (go_big_quiet_step (fail))
  refine wpQuiet_nil ?_
  clear hk c4 c2 l1 l3 cz
  intro W4 hb
  replace R2 := Lib.hid (R2.out.next hb)
  replace R3 := Lib.hid (R3.out.next hb)
  replace BB := Lib.hid (Below.andThen BB.out hb)
  clear hb R1
  have l3 := R3.out.lt
  have cz := R3.out.cell d
  have fz := R3.out.frozen d
  rw [balC_at _ (by omega)] at cz
  try dsimp only at cz
  rw [HX.out] at cz
  go_upto_region 4 with (fail)
  clear l3 cz fz
  refine wp_named fun w5 hq => ?_
  replace R2 := Lib.hid (show Row w5 b2 _ _ from by rw [hq]; exact R2.out.other HS.out.2.2.2 _ _)
  replace R3 := Lib.hid (show Row w5 b3 82 (balC fun j => if j = d then x - amt else if j = c then amt else 0) from by rw [hq, ← balC_set (fun j => if j = c then amt else 0) d (x - amt)]; exact R3.out.set d _)
  replace BB := Lib.hid (show Below w.heap.size w w5 from by rw [hq]; exact BB.out.setCell (p := ⟨b3, d, none⟩) HS.out.1 _)
  clear hq
  rw [← HX.out, HE.out] at R3
  obtain ⟨g, hg⟩ : ∃ g, eff ⟨kind, day, d, c, amt, sub, of⟩ = g := ⟨_, rfl⟩
  rw [hg] at R3
  have HG := Lib.hid hg
  clear hg
  have SZ := Lib.hid (show (Tryd.prog.info? 82).map (·.size) = some (balC g).toArray.size by rw [infoBal, List.size_toArray, balC_len])
  have L1 := Lib.hid (show (balC fun _ => 0).toArray.size = (balC g).toArray.size by rw [List.size_toArray, List.size_toArray, balC_len, balC_len])
  have O1 := Lib.hid (balC_one g)
  go_wp2_with (first | (refine wpList_load_row rfl _ _ rfl b3 rfl 82 (balC g).toArray (0, 0) _ R3.out Tryd.underlying82 rfl SZ.out ?_) | (refine wpList_store_row rfl _ _ _ rfl b2 (balC g).toArray rfl rfl 82 _ R2.out SZ.out L1.out O1.out ?_))
  refine bodyPost_ret (v := .agg (balC g).toArray) (results_cell_row rfl _ _ b2 82 (balC g).toArray (0, 0) _ rfl (setRow_heap _ b2 _ _ _ _ R2.out) Tryd.underlying82 rfl SZ.out) rfl ⟨by rw [HG.out], ?_⟩
  exact BB.out.trans ⟨rfl, rfl, rfl, by simp, fun k hk => setRow_other _ b2 k _ (by have := HS.out; omega)⟩
theorem run_index_bal (w : World) (t : TypeId) (g : Nat → Int) (i : Nat) (ht : Tryd.prog.underlying t = some (.array 12 3)) (hi : i < 12) : (Instr.index t (.agg (balC g).toArray) (.int .i64 i)).run Tryd.prog w = .ok (.int .i64 (g i)) w := by
  obtain ⟨i0, hi0, hz0, hz1, hz2⟩ := info_parts (show (Tryd.prog.info? 3).map (fun i => (i.zero, i.size, i.bytes)) = some (some (.int .i64 0), 1, 8) from by kernel_rfl)
  have hn : (0 : Int) ≤ i ∧ (i : Int) < (12 : Nat) := by omega
  have hx := balC_at g hi
  simp only [Instr.index, asIntOf, Sem.run_bind, Sem.run_pure, Result.andThen_ok, run_underlying ht, if_pos hn]
  simp [sizeOf, typeInfo, hi0, hz1, Go.part, Go.isAgg, run_underlying Tryd.underlying3, hx]
/-- the sums of the first k -/
def upTo (g h : Nat → Int) (k : Nat) (t : Nat) : Int := if t < k then g t + h t else g t
theorem upTo_next (g h : Nat → Int) (k : Nat) : (balC (upTo g h k)).set k (.int .i64 (g k + h k)) = balC (upTo g h (k + 1)) := by
  rw [balC_set]
  refine balC_ext fun t _ => ?_
  unfold upTo
  by_cases e : t = k
  · subst e
    rw [if_pos rfl, if_pos (Nat.lt_succ_self _)]
  · rw [if_neg e]
    by_cases h1 : t < k
    · rw [if_pos h1, if_pos (by omega)]
    · rw [if_neg h1, if_neg (by omega)]
set_option maxRecDepth 100000 in
theorem plus_any (g h : Nat → Int) (w : World) (hg : ∀ t, t < 12 → -1000000000000 ≤ g t ∧ g t ≤ 1000000000000) (hh : ∀ t, t < 12 → -1000000000000 ≤ h t ∧ h t ≤ 1000000000000) :
    Calls Tryd.prog 49 #[.agg (balC g).toArray, .agg (balC h).toArray] w fun e w' => e = .returned (.agg (balC fun t => g t + h t).toArray) ∧ Below w.heap.size w w' := by
  have HG := Lib.hid hg
  have HH := Lib.hid hh
  have HS := Lib.hid (show balC (upTo g h 12) = balC (fun t => g t + h t) from balC_ext fun t ht => if_pos ht)
  have HI := Lib.hid (fun (k : Nat) (hk : k < 12) w => run_index_bal w 82 h k Tryd.underlying82 hk)
  have SZ := Lib.hid (fun g => (show (Tryd.prog.info? 82).map (·.size) = some (balC g).toArray.size by rw [infoBal, List.size_toArray, balC_len]))
  have L1 := Lib.hid (fun g => (show (balC fun _ => 0).toArray.size = (balC g).toArray.size by rw [List.size_toArray, List.size_toArray, balC_len, balC_len]))
  have O1 := Lib.hid balC_one
  clear hg hh
  obtain ⟨h', eh⟩ : ∃ h', (balC h).toArray = h' := ⟨_, rfl⟩
  obtain ⟨g', eg⟩ : ∃ g', (balC g).toArray = g' := ⟨_, rfl⟩
  rw [eh] at HI
  have EH := Lib.hid eh
  have EG := Lib.hid eg
  have SH := Lib.hid (show (Tryd.prog.info? 82).map (·.size) = some h'.size from by rw [← eh]; exact SZ.out h)
  have U := Tryd.underlying82
  rw [eh, eg]
  clear eh eg U
  go_enter Tryd.func49, Tryd.ntmps49
  go_upto_region 1 with (fail)
  refine wp_named fun w1 hq => ?_
  obtain ⟨b1, e1⟩ : ∃ b, b = w.heap.size := ⟨_, rfl⟩
  obtain ⟨b2, e2⟩ : ∃ b, b = w.heap.size + 1 := ⟨_, rfl⟩
  obtain ⟨b3, e3⟩ : ∃ b, b = w.heap.size + 1 + 1 := ⟨_, rfl⟩
  have R1 := Lib.hid (show Row w1 b1 82 (balC (upTo g h 0)) from by
    rw [hq, e1, show balC (upTo g h 0) = balC g from balC_ext fun t _ => if_neg (Nat.not_lt_zero _)]
    rw [← EG.out]
    exact ((Row.new w _ _).alloc _).alloc _)
  have R2 := Lib.hid (show w1.heap[b2]? = some (.cells h' 82 (0, 0)) from by
    rw [hq, e2, ← EH.out]
    have := (Row.new (w.alloc (.cells g' 82)) 82 (balC h)).alloc (.cells (balC fun _ => 0).toArray 82)
    rw [World.size_alloc] at this
    exact this)
  have R3 := Lib.hid (show Row w1 b3 82 (balC fun _ => 0) from by
    rw [hq, e3]
    have := Row.new ((w.alloc (.cells g' 82)).alloc (.cells h' 82)) 82 (balC fun _ => 0)
    rw [World.size_alloc, World.size_alloc] at this
    exact this)
  have BB := Lib.hid (show Below w.heap.size w w1 from by rw [hq]; (repeat' first | exact Below.refl _ _ | assumption | (refine below_drewN ?_ _) | (refine Below.drew ?_) | (refine Below.alloc ?_ ?_ _) | (refine Below.setCell ?_ ?_ _) | (simp; done) | (simp; omega) | omega))
  have HE := Lib.hid (show w.heap.size ≤ b1 ∧ w.heap.size ≤ b3 ∧ b3 ≠ b1 by omega)
  rw [← e3, ← e2, ← e1]
  clear hq e1 e2 e3
  go_wp2_with (refine wpList_load_row rfl _ _ rfl b2 rfl 82 h' (0, 0) _ R2.out Tryd.underlying82 rfl SH.out ?_)
  go_loopw [8] (fun jv wr => ∃ k : Nat, jv = .int .i64 k ∧ k ≤ 12 ∧ Row wr b1 82 (balC (upTo g h k)) ∧ Row wr b3 82 (balC fun _ => 0) ∧ Below w.heap.size w wr) (fun jv _ => 12 - (intOf jv).toNat)
  case atStart => exact ⟨0, rfl, by decide, R1.out, R3.out, BB.out⟩
  case round =>
    obtain ⟨k, rfl, hk, r1, r3, hB⟩ := hrel
    clear R1 R3 BB
    rename World => wr
    have R1 := Lib.hid r1
    have R3 := Lib.hid r3
    have BB := Lib.hid hB
    clear r1 r3 hB
    by_cases hlt : k < 12
    · have hi := HI.out k hlt
      have cz := R1.out.cell k
      have fz := R1.out.frozen k
      have l1 := R1.out.lt
      rw [balC_at _ hlt, show upTo g h k k = g k from if_neg (Nat.lt_irrefl _)] at cz
      have g1 := HG.out k hlt
      have h1 := HH.out k hlt
      have HN := Lib.hid (upTo_next g h k)
      generalize g k = x at *
      generalize h k = y at *
      go_wp2_with fail
      go_roundw
      case rel =>
        refine ⟨k + 1, by go_num, by omega, ?_, R3.out.other HE.out.2.2 _ _, BB.out.setCell (p := ⟨b1, k, none⟩) HE.out.1 _⟩
        rw [← HN.out]
        exact R1.out.set k _
      case measure => simp [intOf]; omega
    · obtain rfl : k = 12 := by omega
      rw [HS.out] at R1
      obtain ⟨s, hs⟩ : ∃ s, (fun t => g t + h t) = s := ⟨_, rfl⟩
      rw [hs] at R1
      have HZ := Lib.hid hs
      clear hs HS
      have SZ1 := Lib.hid (SZ.out s)
      have L2 := Lib.hid (L1.out s)
      have O2 := Lib.hid (O1.out s)
      clear SZ L1 O1
      go_wp2_with (first | (refine wpList_load_row rfl _ _ rfl b1 rfl 82 (balC s).toArray (0, 0) _ R1.out Tryd.underlying82 rfl SZ1.out ?_) | (refine wpList_store_row rfl _ _ _ rfl b3 (balC s).toArray rfl rfl 82 _ R3.out SZ1.out L2.out O2.out ?_))
      refine bodyPost_ret (v := .agg (balC s).toArray) (results_cell_row rfl _ _ b3 82 (balC s).toArray (0, 0) _ rfl (setRow_heap _ b3 _ _ _ _ R3.out) Tryd.underlying82 rfl SZ1.out) rfl ⟨by rw [HZ.out], ?_⟩
      exact BB.out.trans ⟨rfl, rfl, rfl, by simp, fun k hk => setRow_other _ b3 k _ (by have := HE.out; omega)⟩
end Bk
end Go.Proofs.YtnhlhoijajhcjaaDoor
