/- A disk crashes. -/
import Derived.Test.YtgmghfgcpjpigaaDiskW
import Derived.Lib.MinMax
import Derived.LoopTactic
namespace Go.Proofs.Ytgmghfgcpjpigaa
open Go.RowKit

theorem infoBool : (Try.prog.info? 4).map (fun i => (i.zero, i.size, i.bytes)) = some (some (.bool false), 1, 1) := by kernel_rfl

/-- the marks of the pending writes that survive, by the first numbers of the list -/
def marks (m : Nat) (ks : List Int) : List Value := (List.range m).map fun j => .bool (keptB m ks j)
theorem marks_length (m : Nat) (ks : List Int) : (marks m ks).length = m := by simp [marks]
theorem marks_nil (m : Nat) : marks m [] = List.replicate m (.bool false) := by
  apply List.ext_getElem
  · simp [marks]
  · intro i h1 h2
    simp [marks, keptB]
theorem marks_at (m : Nat) (ks : List Int) (j : Nat) (hj : j < m) : (marks m ks)[j]? = some (.bool (keptB m ks j)) := by simp [marks, hj]
theorem marks_good (m : Nat) (ks : List Int) (z : Nat) (hz : z < m) : (marks m ks).set z (.bool true) = marks m (ks ++ [(z : Int)]) := by
  apply List.ext_getElem?
  intro i
  rw [List.getElem?_set]
  by_cases hi : i < m
  · rw [marks_at _ _ _ hi, marks_at _ _ _ hi]
    by_cases e : z = i
    · subst e
      simp [keptB, marks_length, hi]
    · simp [keptB, e, hi]
      omega
  · rw [List.getElem?_eq_none (by rw [marks_length]; omega), List.getElem?_eq_none (by rw [marks_length]; omega)]
    by_cases e : z = i
    · omega
    · simp [e]
theorem marks_bad (m : Nat) (ks : List Int) (z : Int) (hz : goodK m z = false) : marks m ks = marks m (ks ++ [z]) := by
  unfold marks
  apply List.map_congr_left
  intro i hi
  rw [List.mem_range] at hi
  have : ¬ (i : Int) = z := by
    rintro rfl
    simp [goodK] at hz
    omega
  simp [keptB, this]
theorem lastK_more (m : Nat) (ks : List Int) (z : Int) : lastK m (ks ++ [z]) = if goodK m z then max (lastK m ks) z else lastK m ks := by simp [lastK]
theorem lastK_bd (m : Nat) (ks : List Int) (hm : m ≤ 1000000) : -1 ≤ lastK m ks ∧ lastK m ks ≤ 1000000 := by
  have key : ∀ (ks : List Int) (l : Int), -1 ≤ l → l ≤ 1000000 → -1 ≤ ks.foldl (fun l k => if goodK m k then max l k else l) l ∧ ks.foldl (fun l k => if goodK m k then max l k else l) l ≤ 1000000 := by
    intro ks
    induction ks with
    | nil => intro l h1 h2; exact ⟨h1, h2⟩
    | cons k ks ih =>
      intro l h1 h2
      rw [List.foldl_cons]
      split
      · rename_i hg
        simp [goodK] at hg
        exact ih _ (by omega) (by omega)
      · exact ih _ h1 h2
  exact key ks (-1) (by omega) (by omega)
theorem take_more {ks : List Int} {k : Nat} (h : k < ks.length) : ks.take (k + 1) = ks.take k ++ [ks[k]] := by rw [List.take_add_one]; simp [h]

/-- a text copied over a row of bytes -/
theorem copy_over {w1 : World} {g : Nat} {L : List UInt8} (h : Row w1 g 5 (L.map byteV)) (n a : Nat) (x : ByteArray) (hn : L.length = n) (hfit : a + x.size ≤ n) (o2 : Nat) (ho2 : (a = n ∧ o2 = 0) ∨ (a ≠ n ∧ o2 = a)) :
    ∃ W4, (∀ ty, (Builtin.copy_ #[40, 9] ty #[.slice (some ⟨g, o2, none⟩) (n - a) (n - a), .string x]).run Try.prog w1 = .ok (goInt x.size) W4) ∧ Only (fun j => j = g) w1 W4 ∧ Row W4 g 5 ((over L a x.data.toList).map byteV) := by
  by_cases hx : x.size = 0
  · have ex : x.data.toList = [] := List.eq_nil_of_length_eq_zero (by rw [size_list]; exact hx)
    have eo : over L a [] = L := by simp [splice]
    refine ⟨_, fun ty => ?_, Only.refl _ _, ?_⟩
    · rw [hx]
      exact Lib.run_copy_empty_string _ _ _ _ 5 _ _ _ x rfl (by rw [sizeByte]; rfl) hx
    · rw [ex, eo]
      exact h
  · have e2 : o2 = a := by omega
    subst e2
    have hlen : ((over L o2 x.data.toList).map byteV) = (L.map byteV).take o2 ++ Lib.byteCells x.data.toList ++ (L.map byteV).drop (o2 + x.size) := by
      simp only [splice, List.map_append, List.map_take, List.map_drop, List.append_assoc, size_list]
      rfl
    have hrun := fun ty => Lib.run_copy_row_string (P := Try.prog) w1 40 9 ty 5 g o2 (n - o2) (n - o2) x _ 5 rfl sizeByte h (by omega) (by simp [hn]; omega)
    rw [← hlen] at hrun
    exact ⟨_, hrun, only_setRow _ _, Row.setRow h _⟩

set_option maxRecDepth 100000 in
set_option maxHeartbeats 4000000 in
theorem crash_any (D n : Nat) (F : Nat → Prop) (s : DS) (o : Option Addr) (ks : List Int) (cap : Nat) (torn : Int) (w : World) (h : Disk w F D n s) (hm : s.pend.length ≤ 1000000) (hl : ks.length ≤ 1000000)
    (hk : ∀ i (hi : i < ks.length), ∃ a, o = some a ∧ w.cell? (a.add i) = some (.int .i64 ks[i]) ∧ ¬ F a.block) (ht : -9223372036854775808 ≤ torn ∧ torn ≤ 9223372036854775807) :
    Calls Try.prog 25 #[at_ D, .slice o ks.length cap, .int .i64 torn] w fun e w' => e = .returned (.int .i64 0) ∧ DStep w w' F D n (s.crashS ks torn) := by
  have HG := Lib.hid (DS.crashS_good h.good.1 ks torn)
  obtain ⟨G1, G2, pv, h, rfl⟩ := h
  obtain ⟨h0, h1, h2, h3, h4, hf⟩ := row5 h.head
  have H := Lib.hid h
  have HK := Lib.hid hk
  obtain ⟨m, em⟩ : ∃ m, m = s.pend.length := ⟨_, rfl⟩
  obtain ⟨po, pc, rfl⟩ : ∃ po pc, pv = .slice po m pc := by
    rcases h.pend.2 with ⟨rfl, e⟩ | ⟨g, cap, cur, rfl, _⟩
    · exact ⟨none, 0, by rw [em, e]⟩
    · exact ⟨_, _, by rw [em]⟩
  rw [← em] at hm
  have HM := Lib.hid em
  obtain ⟨i0, hi, hz0, hz1, hz2⟩ := info_parts infoBool
  have hmk := run_make_row (P := Try.prog) w 58 4 i0 _ 1 Try.underlying58 hi hz0 hz1 hz2 rfl m (by omega) (by omega)
  have LB := Lib.hid (fun ks => lastK_bd m ks hm)
  clear h hk h0 h1 h2 h3 hf em
  go_enter Try.func25, Try.ntmps25
  go_wp2_with fail
  clear hmk
  have R0 := Row.newA w 4 m (.bool false)
  rw [← marks_nil] at R0
  have HB1 := Lib.hid (show Below w.heap.size w (w.alloc (.cells (Array.replicate m (.bool false)) 4)) from (Below.refl _ _).alloc (Nat.le_refl _) _)
  go_loopw [8, 24] (fun l i wr => ∃ k : Nat, k ≤ ks.length ∧ i = .int .i64 k ∧ l = .int .i64 (lastK m (ks.take k)) ∧ Row wr w.heap.size 4 (marks m (ks.take k)) ∧ Below w.heap.size w wr) (fun _ i _ => ks.length - (intOf i).toNat)
  case atStart => exact ⟨0, Nat.zero_le _, rfl, rfl, R0, HB1.out⟩
  case round =>
    obtain ⟨k, hk, rfl, rfl, hR, hB⟩ := hrel
    by_cases hlt : k < ks.length
    · obtain ⟨ad, rfl, hc, hn⟩ := HK.out k hlt
      have hcz : wr.cell? (ad.add k) = some (.int .i64 ks[k]) := (hB.cell (World.block_lt_of_cell? w _ hc)).trans hc
      have lb := LB.out (ks.take k)
      obtain ⟨z, ez⟩ : ∃ z, z = ks[k] := ⟨_, rfl⟩
      rw [← ez] at hcz
      have EZ := Lib.hid (show ks.take (k + 1) = ks.take k ++ [z] by rw [ez]; exact take_more hlt)
      have HR := Lib.hid hR
      have HB := Lib.hid hB
      obtain ⟨l, el⟩ : ∃ l, l = lastK m (ks.take k) := ⟨_, rfl⟩
      rw [← el] at lb ⊢
      have EL := Lib.hid el
      clear hc hn ez el hR hB
      by_cases hz0 : 0 ≤ z
      · by_cases hzm : z < m
        · obtain ⟨z, rfl⟩ := Int.eq_ofNat_of_zero_le hz0
          have hc1 : wr.cell? ⟨w.heap.size, z, none⟩ = some (.bool (keptB m (ks.take k) z)) := by rw [HR.out.cell, marks_at _ _ _ (by omega)]
          have hf1 := HR.out.frozen z
          go_wp2_with fail
          go_roundw
          case rel =>
            refine ⟨k + 1, by omega, by go_num, ?_, ?_, HB.out.setCell (by simp) _⟩
            · rw [EZ.out, lastK_more, if_pos (by simp [goodK]; omega), ← EL.out]
            · rw [EZ.out, ← marks_good _ _ _ (by omega)]
              exact HR.out.set z _
          case measure => simp [intOf]; omega
        · go_wp2_with fail
          go_roundw
          case rel =>
            have hg : goodK m z = false := by simp [goodK]; omega
            refine ⟨k + 1, by omega, by go_num, ?_, ?_, HB.out⟩
            · rw [EZ.out, lastK_more, hg, ← EL.out]; rfl
            · rw [EZ.out, ← marks_bad _ _ _ hg]
              exact HR.out
          case measure => simp [intOf]; omega
      · go_wp2_with fail
        go_roundw
        case rel =>
          have hg : goodK m z = false := by simp [goodK]; omega
          refine ⟨k + 1, by omega, by go_num, ?_, ?_, HB.out⟩
          · rw [EZ.out, lastK_more, hg, ← EL.out]; rfl
          · rw [EZ.out, ← marks_bad _ _ _ hg]
            exact HR.out
        case measure => simp [intOf]; omega
    · obtain rfl : k = ks.length := by omega
      rw [List.take_length] at hR ⊢
      have h4' := (hB.cell (World.block_lt_of_cell? w _ h4)).trans h4
      have H1 := Lib.hid (H.out.keep (fun j hj => hB.block j (H.out.lt j hj)))
      have HR := Lib.hid hR
      have HB := Lib.hid hB
      have lb := LB.out ks
      obtain ⟨l, el⟩ : ∃ l, l = lastK m ks := ⟨_, rfl⟩
      rw [← el] at lb ⊢
      have EL := Lib.hid el
      clear hR hB hlt hk h4 el
      obtain ⟨wA, hA⟩ : ∃ wA, wA = wr := ⟨_, rfl⟩
      rw [← hA] at H1 HR HB h4' ⊢
      have HS := Lib.hid hA
      clear hA
      have HL := Lib.hid HB.out.size
      have g1 : G1 ≠ w.heap.size := fun e => absurd (H.out.sure.lt) (by omega)
      have gD : D ≠ w.heap.size := fun e => absurd (H.out.head.lt) (by omega)
      have g2 : G2 ≠ w.heap.size := fun e => absurd (H.out.vis.lt) (by omega)
      have C0 := Lib.hid (show Row wA G1 5 ((crashK s.pend (keptB m ks) l torn 0 s.sure).map byteV) from H1.out.sure)
      go_wp2_with fail
      go_loopw [48] (fun i wr => ∃ k : Nat, k ≤ m ∧ i = .int .i64 k ∧ Row wr G1 5 ((crashK s.pend (keptB m ks) l torn k s.sure).map byteV) ∧ Only (fun j => j = G1) wA wr) (fun i _ => m - (intOf i).toNat)
      case atStart => exact ⟨0, Nat.zero_le _, rfl, C0.out, Only.refl _ _⟩
      case round =>
        obtain ⟨k, hk, rfl, hC, hO⟩ := hrel
        by_cases hlt : k < m
        · obtain ⟨⟨a, x⟩, hp⟩ : ∃ p, s.pend[k]? = some p := ⟨_, List.getElem?_eq_getElem (by rw [← HM.out]; exact hlt)⟩
          have hfit : a + x.size ≤ n := H.out.good.pend _ (List.mem_of_getElem? hp)
          obtain ⟨g, rfl⟩ : ∃ g, po = some ⟨g, 0, none⟩ := by
            rcases H.out.pend.2 with ⟨e, _⟩ | ⟨g, _, _, e, _⟩
            · simp at e; omega
            · simp at e; exact ⟨g, e.1⟩
          have hP := H1.out.pend
          rw [← HM.out] at hP
          have c1 := hP.cellAt (k * 2) (by omega)
          have c2 := hP.cellAt (k * 2 + 1) (by omega)
          obtain ⟨q1, q2⟩ := pendC_at s.pend k _ hp
          rw [Nat.mul_comm] at q1 q2
          rw [q1] at c1
          rw [q2] at c2
          have hgG : g ≠ G1 := fun e => H.out.pend_ne.2.1 (by rw [← e]; rfl)
          replace c1 := hO.cell c1 hgG
          replace c2 := hO.cell c2 hgG
          have hB := (hO.row HR.out g1.symm).cell k
          rw [marks_at _ _ _ hlt] at hB
          have z1 : w.heap.size < wr.heap.size := (hO.row HR.out g1.symm).lt
          have z2 : wr.heap.size ≠ w.heap.size := by omega
          have z5 : D < wr.heap.size := by have := H.out.head.lt; omega
          have z3 : wr.heap.size ≠ D := by have := H.out.head.lt; omega
          have z4 : wr.heap.size ≠ G1 := by have := H.out.sure.lt; omega
          have cD := (hO.row H1.out.head H.out.ne.1).cell 2
          simp only [List.getElem?_cons_succ, List.getElem?_cons_zero] at cD
          have HP := Lib.hid hp
          have HC := Lib.hid hC
          have HO := Lib.hid hO
          clear q1 q2 hP hp hC hO
          cases hkp : keptB m ks k
          · rw [hkp] at hB
            go_wp2_with fail
            go_roundw
            case rel =>
              have HE := Lib.hid (show crashK s.pend (keptB m ks) l torn (k + 1) s.sure = crashK s.pend (keptB m ks) l torn k s.sure by
                rw [crashK, HP.out]
                simp only [hkp, if_false, Bool.false_eq_true])
              refine ⟨k + 1, by omega, by go_num, ?_, HO.out.alloc _⟩
              rw [HE.out]
              exact HC.out.alloc _
            case measure => simp [intOf]; omega
          · rw [hkp] at hB
            by_cases hto : (k : Int) = l ∧ 0 ≤ torn
            · obtain ⟨hl1, hl2⟩ := hto
              have hdata : (x.extract 0 (min torn (x.size : Int)).toNat).data.toList = x.data.toList.take torn.toNat := by
                have e1 : (x.extract 0 (min torn (x.size : Int)).toNat).data.toList = x.data.toList.take (min torn (x.size : Int)).toNat := by simp [ByteArray.data_extract]
                rw [e1]
                by_cases hq : torn ≤ x.size
                · rw [show min torn (x.size : Int) = torn by omega]
                · rw [show min torn (x.size : Int) = x.size by omega, Int.toNat_natCast, List.take_of_length_le (by rw [size_list]; omega), List.take_of_length_le (by rw [size_list]; omega)]
              have HE := Lib.hid (show crashK s.pend (keptB m ks) l torn (k + 1) s.sure = over (crashK s.pend (keptB m ks) l torn k s.sure) a (x.extract 0 (min torn (x.size : Int)).toNat).data.toList by
                rw [crashK, HP.out, hdata]
                simp only [hkp, if_true, tornL, hl1, hl2, and_self])
              subst hl1
              have hfit' : a + (x.extract 0 (min torn (x.size : Int)).toNat).size ≤ n := by rw [ByteArray.size_extract]; omega
              clear hkp hdata
              by_cases hna : a = n
              · obtain ⟨W4, hcp, O4, R4⟩ := copy_over (w1 := (wr.alloc (.cells #[.int .i64 a, .string x] 69)).drew) (HC.out.alloc _).drew n a (x.extract 0 (min torn (x.size : Int)).toNat) (crashK_length H.out.good.sure H.out.good.pend k) (by first | exact hfit | exact hfit') 0 (.inl ⟨hna, rfl⟩)
                have K4 := Lib.hid (And.intro O4 R4)
                clear O4 R4
                subst hna
                simp only [Nat.sub_self] at hcp
                go_wp2_with fail
                go_region
                go_wp2_with fail
                go_roundw
                case rel =>
                  obtain ⟨O4, R4⟩ := K4.out
                  refine ⟨k + 1, by omega, by go_num, ?_, ((HO.out.alloc _).drew).trans O4 (fun j hj => .inl hj)⟩
                  rw [HE.out]
                  exact R4
                case measure => simp [intOf]; omega
              · obtain ⟨W4, hcp, O4, R4⟩ := copy_over (w1 := (wr.alloc (.cells #[.int .i64 a, .string x] 69)).drew) (HC.out.alloc _).drew n a (x.extract 0 (min torn (x.size : Int)).toNat) (crashK_length H.out.good.sure H.out.good.pend k) (by first | exact hfit | exact hfit') a (.inr ⟨hna, rfl⟩)
                have K4 := Lib.hid (And.intro O4 R4)
                clear O4 R4
                have hna' : ¬ n = a := fun e => hna e.symm
                go_wp2_with fail
                go_region
                go_wp2_with fail
                go_roundw
                case rel =>
                  obtain ⟨O4, R4⟩ := K4.out
                  refine ⟨k + 1, by omega, by go_num, ?_, ((HO.out.alloc _).drew).trans O4 (fun j hj => .inl hj)⟩
                  rw [HE.out]
                  exact R4
                case measure => simp [intOf]; omega
            · have HE := Lib.hid (show crashK s.pend (keptB m ks) l torn (k + 1) s.sure = over (crashK s.pend (keptB m ks) l torn k s.sure) a x.data.toList by
                rw [crashK, HP.out]
                simp only [hkp, if_true, tornL, hto, if_false])
              clear hkp
              have hto' : ¬ (k : Int) = l ∨ (k : Int) = l ∧ torn < 0 := by omega
              rcases hto' with hto' | ⟨hto', hto''⟩
              · by_cases hna : a = n
                · obtain ⟨W4, hcp, O4, R4⟩ := copy_over (w1 := (wr.alloc (.cells #[.int .i64 a, .string x] 69)).drew) (HC.out.alloc _).drew n a x (crashK_length H.out.good.sure H.out.good.pend k) (by first | exact hfit | exact hfit') 0 (.inl ⟨hna, rfl⟩)
                  have K4 := Lib.hid (And.intro O4 R4)
                  clear O4 R4
                  subst hna
                  simp only [Nat.sub_self] at hcp
                  go_wp2_with fail
                  go_region
                  go_wp2_with fail
                  go_roundw
                  case rel =>
                    obtain ⟨O4, R4⟩ := K4.out
                    refine ⟨k + 1, by omega, by go_num, ?_, ((HO.out.alloc _).drew).trans O4 (fun j hj => .inl hj)⟩
                    rw [HE.out]
                    exact R4
                  case measure => simp [intOf]; omega
                · obtain ⟨W4, hcp, O4, R4⟩ := copy_over (w1 := (wr.alloc (.cells #[.int .i64 a, .string x] 69)).drew) (HC.out.alloc _).drew n a x (crashK_length H.out.good.sure H.out.good.pend k) (by first | exact hfit | exact hfit') a (.inr ⟨hna, rfl⟩)
                  have K4 := Lib.hid (And.intro O4 R4)
                  clear O4 R4
                  have hna' : ¬ n = a := fun e => hna e.symm
                  go_wp2_with fail
                  go_region
                  go_wp2_with fail
                  go_roundw
                  case rel =>
                    obtain ⟨O4, R4⟩ := K4.out
                    refine ⟨k + 1, by omega, by go_num, ?_, ((HO.out.alloc _).drew).trans O4 (fun j hj => .inl hj)⟩
                    rw [HE.out]
                    exact R4
                  case measure => simp [intOf]; omega
              · subst hto'
                by_cases hna : a = n
                · obtain ⟨W4, hcp, O4, R4⟩ := copy_over (w1 := (wr.alloc (.cells #[.int .i64 a, .string x] 69)).drew) (HC.out.alloc _).drew n a x (crashK_length H.out.good.sure H.out.good.pend k) (by first | exact hfit | exact hfit') 0 (.inl ⟨hna, rfl⟩)
                  have K4 := Lib.hid (And.intro O4 R4)
                  clear O4 R4
                  subst hna
                  simp only [Nat.sub_self] at hcp
                  go_wp2_with fail
                  go_region
                  go_wp2_with fail
                  go_roundw
                  case rel =>
                    obtain ⟨O4, R4⟩ := K4.out
                    refine ⟨k + 1, by omega, by go_num, ?_, ((HO.out.alloc _).drew).trans O4 (fun j hj => .inl hj)⟩
                    rw [HE.out]
                    exact R4
                  case measure => simp [intOf]; omega
                · obtain ⟨W4, hcp, O4, R4⟩ := copy_over (w1 := (wr.alloc (.cells #[.int .i64 a, .string x] 69)).drew) (HC.out.alloc _).drew n a x (crashK_length H.out.good.sure H.out.good.pend k) (by first | exact hfit | exact hfit') a (.inr ⟨hna, rfl⟩)
                  have K4 := Lib.hid (And.intro O4 R4)
                  clear O4 R4
                  have hna' : ¬ n = a := fun e => hna e.symm
                  go_wp2_with fail
                  go_region
                  go_wp2_with fail
                  go_roundw
                  case rel =>
                    obtain ⟨O4, R4⟩ := K4.out
                    refine ⟨k + 1, by omega, by go_num, ?_, ((HO.out.alloc _).drew).trans O4 (fun j hj => .inl hj)⟩
                    rw [HE.out]
                    exact R4
                  case measure => simp [intOf]; omega
        · obtain rfl : k = m := by omega
          have eL : crashK s.pend (keptB k ks) l torn k s.sure = s.crashL ks torn := by
            rw [DS.crashL, ← HM.out, EL.out]
          rw [eL] at hC
          have hLn : (s.crashL ks torn).length = n := HG.out.sure
          obtain ⟨L, hL⟩ : ∃ L, L = s.crashL ks torn := ⟨_, rfl⟩
          rw [← hL] at hC hLn
          have HLL := Lib.hid hL
          have R2 := hO.row H1.out.vis (fun e => H.out.apart e.symm)
          have RD := hO.row H1.out.head H.out.ne.1
          have hcp := fun ty => run_copy_cells2 (P := Try.prog) (w := wr.drew) (c1 := n) (c2 := n) R2.drew hC.drew H.out.good.vis hLn 40 40 ty rfl sizeByte
          obtain ⟨W2, hW⟩ : ∃ W2, W2 = wr.drew.setRow G2 (L.map byteV).toArray := ⟨_, rfl⟩
          rw [← hW] at hcp
          have O2 : Only (fun j => j = G2) wr W2 := by rw [hW]; exact (Only.refl _ wr).drew.trans (only_setRow (w := wr.drew) G2 _) (fun _ h => .inl h)
          have S2 : Row W2 G2 5 (L.map byteV) := by rw [hW]; exact Row.setRow (w := wr.drew) R2 _
          have S1 := O2.row hC H.out.apart
          have SD := O2.row RD H.out.ne.2.1
          have OA : Only (Foot D G1 G2 (.slice po k pc)) w W2 := ((Only.of_below HB.out).trans hO (fun j hj => .inl (.inr (.inl hj)))).trans O2 (fun j hj => .inl (.inr (.inr (.inl hj))))
          have SP := ownsRow_same (ownsRow_same H1.out.pend (w' := wr) (fun g hg => hO.block g (H1.out.lt g (.inr (.inr (.inr hg)))) (fun e => H.out.pend_ne.2.1 (by rw [hg, e])))) (w' := W2)
            (fun g hg => O2.block g (Nat.lt_of_lt_of_le (H1.out.lt g (.inr (.inr (.inr hg)))) hO.size) (fun e => H.out.pend_ne.2.2 (by rw [hg, e])))
          have CF := Lib.hid (forget_any D _ _ _ _ _ _ _ W2 SD SP)
          obtain ⟨_, _, d2, d3, _, _⟩ := row5 RD
          have K := Lib.hid (And.intro OA (And.intro S1 S2))
          clear hC hO hL eL R2 RD hW O2 S2 S1 SD OA SP hlt hk
          go_wp2_with fail
          go_region
          go_wp2_with fail
          refine CF.out.mono ?_
          rintro e w3 ⟨rfl, pv', ho, hO, hR, hP⟩
          have CS := Lib.hid (restore_any D _ _ _ _ _ w3 hR)
          have K3 := Lib.hid (And.intro ho (And.intro hO hP))
          clear ho hO hR hP
          go_wp2_with fail
          refine CS.out.mono ?_
          rintro e w4 ⟨rfl, hO4, hR4⟩
          go_wp2
          go_ret
          obtain ⟨OA, S1, S2⟩ := K.out
          obtain ⟨ho, hO, hP⟩ := K3.out
          have h := H.out
          have n1 : ¬ (G1 = D ∨ (Value.slice po k pc).ownBlock = some G1) := fun e => e.elim (fun e => h.ne.1 e.symm) h.pend_ne.2.1
          have n2 : ¬ (G2 = D ∨ (Value.slice po k pc).ownBlock = some G2) := fun e => e.elim (fun e => h.ne.2.1 e.symm) h.pend_ne.2.2
          refine ⟨rfl, disk_done h ((OA.trans hO (fun j hj => .inl (hj.elim .inl (fun e => .inr (.inr (.inr e)))))).trans hO4 (fun j hj => .inl (.inl hj))) (.inl ho) hR4 ?_ ?_ ?_ HG.out⟩
          · show Row w4 G1 _ ((s.crashL ks torn).map byteV)
            rw [← HLL.out]
            exact hO4.row (hO.row S1 n1) h.ne.1.symm
          · show Row w4 G2 _ ((s.crashL ks torn).map byteV)
            rw [← HLL.out]
            exact hO4.row (hO.row S2 n2) h.ne.2.1.symm
          · exact ownsRow_same hP (fun g hg => hO4.block g (hP.lt g hg).2 (fun e => h.pend_ne.1 (by rw [← ho, hg, e])))
set_option maxHeartbeats 400000 in
theorem crash_nil (w : World) (v : Value) (t : Int) : Calls Try.prog 25 #[.pointer none, v, .int .i64 t] w fun e w' => e = .returned (.int .i64 1) ∧ w = w' := by
  go_enter Try.func25, Try.ntmps25
  go_wp2
  go_ret
  exact ⟨rfl, rfl⟩
end Go.Proofs.Ytgmghfgcpjpigaa
