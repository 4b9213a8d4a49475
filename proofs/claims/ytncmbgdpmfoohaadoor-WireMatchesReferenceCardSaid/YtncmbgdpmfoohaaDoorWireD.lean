/- Encoding: the function that hands out groups, and PutInt over it. -/
import Derived.Test.YtncmbgdpmfoohaaDoorWireC
import Derived.Test.YtncmbgdpmfoohaaDoorIter
import Derived.Maps.AppendAt
import Derived.RangeFuncBox
import Derived.Laws.IdiomStrings
namespace Go.Proofs.YtncmbgdpmfoohaaDoor
open Go.RowKit Go.Shelf
attribute [local go_sem] Oper.semAt_some

theorem byte_of {z : Nat} (h : z < 256) : (UInt8.ofNat z).toNat = z := by rw [UInt8.toNat_ofNat']; omega

set_option maxRecDepth 100000 in
set_option maxHeartbeats 2000000 in
theorem groups_seq (F : Fence) (n : Nat) (hF : F.fn 27) (hro : F.round = none) (hn : 1 ≤ n) (B z : Nat) (hz : z < 9223372036854775808) :
    SeqCell F n Tryd.prog 27 #[.pointer (some ⟨B, 0, none⟩)] (fun x : UInt8 => #[.int .u8 x.toNat]) (encB z) B (fun W => W.cell? ⟨B, 0, none⟩ = some (.int .u64 z) ∧ W.frozen? ⟨B, 0, none⟩ = false) := by
  intro l J Jx W hZ hJ hJx hY h0
  obtain ⟨hZc, hZf⟩ := hZ
  refine callsIn_of_wp Tryd.func27 rfl hF ?_ hro
  simp only [Tryd.ntmps27, List.size_toArray, List.length_cons, List.length_nil, Nat.reduceAdd, Nat.reduceSub, Array.replicate_succ, Array.replicate_zero, List.push_toArray, List.append_toArray, List.nil_append, List.cons_append]
  gi_wp2
  gi_loopw [] (fun wr => ∃ (pre : List UInt8) (y : Nat), encB z = pre ++ encB y ∧ y ≤ z ∧ J pre wr ∧ wr.cell? ⟨B, 0, none⟩ = some (.int .u64 y) ∧ wr.frozen? ⟨B, 0, none⟩ = false)
    (fun wr => (intOf ((wr.cell? ⟨B, 0, none⟩).getD undef)).toNat)
  case atStart => exact ⟨[], z, rfl, Nat.le_refl _, h0, hZc, hZf⟩
  case round =>
    obtain ⟨pre, y, hx, hyz, hJs, hc, hf⟩ := hrel
    have hy63 : y < 9223372036854775808 := by omega
    by_cases hge : 128 ≤ y
    · have hb : (UInt8.ofNat (y % 128 + 128)).toNat = y % 128 + 128 := byte_of (by omega)
      have e1 : encB y = UInt8.ofNat (y % 128 + 128) :: encB (y / 128) := encB_ge (by omega)
      have hp : encB z = (pre ++ [UInt8.ofNat (y % 128 + 128)]) ++ encB (y / 128) := by rw [hx, e1]; simp
      obtain ⟨fn, tmps, assign, body, hy, hR⟩ := hY pre (UInt8.ofNat (y % 128 + 128)) wr hJs ⟨_, hp.symm⟩
      rw [hb] at hy
      have c1 : ((y % 128 + 128 : Nat) : Int) = (y : Int) % 128 + 128 := by omega
      rw [c1] at hy
      have HX := Lib.hid hx
      have HP := Lib.hid hp
      have HZ := Lib.hid hyz
      have HE := Lib.hid e1
      clear hx hp e1 c1 hb hyz
      gi_wp2
      refine hR.mono ?_
      rintro e W3 (⟨rfl, hJ3, hk3⟩ | ⟨rfl, hJx3⟩)
      · have hc3 : W3.cell? ⟨B, 0, none⟩ = some (.int .u64 y) := (World.cell?_of_block hk3).trans hc
        have hf3 : W3.frozen? ⟨B, 0, none⟩ = false := (World.frozen?_of_block hk3).trans hf
        gi_wp2
        go_roundw
        case rel =>
          refine ⟨_, y / 128, HP.out, by have := HZ.out; omega, hJ _ _ _ hJ3 (grownBy_setCell' _ _ _) (KeepsOthers.setCell _ _ _), ?_, ?_⟩
          · rw [World.cell?_setCell_same' _ _ _ (by rw [hc3]; rfl)]; rfl
          · rw [World.frozen?_setCell]; exact hf3
        case measure =>
          rw [World.cell?_setCell_same' _ _ _ (by rw [hc3]; rfl), hc]
          simp [intOf]; omega
      · gi_wp2
        refine bodyPost_ret (results_none rfl _ _ _) rfl ?_
        exact ⟨⟨_, rfl⟩, .inr ⟨_, ⟨_, HP.out.symm⟩, hJx3⟩⟩
    · have hb : (UInt8.ofNat y).toNat = y := byte_of (by omega)
      have e1 : encB y = [UInt8.ofNat y] := encB_lt (by omega)
      have hp : encB z = pre ++ [UInt8.ofNat y] := by rw [hx, e1]
      obtain ⟨fn, tmps, assign, body, hy, hR⟩ := hY pre (UInt8.ofNat y) wr hJs ⟨[], by rw [hp]; simp⟩
      rw [hb] at hy
      have HP := Lib.hid hp
      clear hx hp e1 hb hyz
      gi_wp2
      refine hR.mono ?_
      rintro e W3 (⟨rfl, hJ3, _⟩ | ⟨rfl, hJx3⟩)
      · gi_wp2
        go_end0
        exact ⟨⟨_, rfl⟩, .inl (by rw [HP.out]; exact hJ3)⟩
      · gi_wp2
        go_end0
        exact ⟨⟨_, rfl⟩, .inr ⟨_, ⟨[], by rw [HP.out]; simp⟩, hJx3⟩⟩

set_option maxHeartbeats 400000 in
theorem groups_any (z : Nat) (w : World) :
    Calls Tryd.prog 23 #[.int .u64 z] w fun e w' => e = .returned (.func (.func 27) #[] #[.pointer (some ⟨w.heap.size, 0, none⟩)]) ∧ w' = w.alloc (.cells #[.int .u64 z] 49) := by
  go_enter Tryd.func23, Tryd.ntmps23
  go_wp2
  go_ret
  exact ⟨rfl, rfl⟩

theorem infoByte : (Tryd.prog.info? 5).map (fun i => (i.zero, i.size, i.bytes)) = some (some (.int .u8 0), 1, 1) := by kernel_rfl
abbrev byteV (b : UInt8) : Value := .int .u8 b.toNat

theorem ownsRow_weaken {W : World} {b0 b1 : Nat} {e : TypeId} {size k : Nat} {v : Value} {xs : List Value} (h : W.ownsRow b1 e size v k xs) (hb : b0 ≤ b1) : W.ownsRow b0 e size v k xs := by
  obtain ⟨h1, h2⟩ := h
  refine ⟨h1, ?_⟩
  rcases h2 with h2 | ⟨g, cap, cur, h3, h4, h5⟩
  · exact .inl h2
  · exact .inr ⟨g, cap, cur, h3, by omega, h5⟩

theorem ownsRow_bytes {W : World} {b0 g cap : Nat} {e : TypeId} {l : List UInt8} {n : Nat} (h : W.ownsRow b0 e 1 (.slice (some ⟨g, 0, none⟩) n cap) l.length (l.map byteV)) :
    ∀ j (hj : j < l.length), W.cell? (Addr.add ⟨g, 0, none⟩ j) = some (.int .u8 (l[j].toNat : Int)) := by
  intro j hj
  obtain ⟨_, h2⟩ := h
  rcases h2 with ⟨h2, _⟩ | ⟨g', cap', cur, h3, h4, h5, h6, h7, h8, h9⟩
  · cases h2
  · simp only [Value.slice.injEq, Option.some.injEq, Addr.mk.injEq] at h3
    obtain ⟨⟨rfl, _⟩, _⟩ := h3
    have : cur.toList[j]? = some (byteV l[j]) := by
      have h10 := congrArg (fun x : List Value => x[j]?) h9
      simp only [Nat.mul_one, List.getElem?_take, hj, if_true, List.getElem?_map, List.getElem?_eq_getElem hj, Option.map_some] at h10
      exact h10
    have e : Addr.add ⟨g, 0, none⟩ j = ⟨g, j, none⟩ := by unfold Addr.add; split <;> simp_all
    rw [e]
    simp [World.cell?, h5]
    simpa using this

/-- what PutInt returns -/
def putV (n : Int) : Value := .tuple #[.string ⟨(putR n).1.toArray⟩, .int .i64 (putR n).2]

set_option maxHeartbeats 400000 in
theorem put_bad (n : Int) (w : World) (h : n < -4611686018427387903 ∨ 4611686018427387903 < n) :
    Calls Tryd.prog 12 #[.int .i64 n] w fun e w' => e = .returned (putV n) ∧ Below w.heap.size w w' := by
  have E := Lib.hid (show putV n = .tuple #[.string ⟨#[]⟩, .int .i64 10] by unfold putV putR maxI; rw [if_neg (by omega)])
  rw [E.out]
  rcases h with h | h
  · go_enter Tryd.func12, Tryd.ntmps12
    go_wp2
    go_ret2
    exact ⟨rfl, Below.refl _ _⟩
  · have h' : ¬ n < -4611686018427387903 := by omega
    go_enter Tryd.func12, Tryd.ntmps12
    go_wp2
    go_ret2
    exact ⟨rfl, Below.refl _ _⟩

set_option maxRecDepth 100000 in
set_option maxHeartbeats 2000000 in
theorem put_good (n : Int) (w : World) (h1 : -4611686018427387903 ≤ n) (h2 : n ≤ 4611686018427387903) :
    Calls Tryd.prog 12 #[.int .i64 n] w fun e w' => e = .returned (putV n) ∧ Below w.heap.size w w' := by
  have E := Lib.hid (show putV n = .tuple #[.string ⟨(encB (foldZ n)).toArray⟩, .int .i64 0] by unfold putV putR maxI; rw [if_pos (by omega)])
  have hz := foldZ_bd (n := n) (by unfold maxI; omega) (by unfold maxI; omega)
  obtain ⟨i0, hi, hz0, hz1, hz2⟩ := info_parts infoByte
  rw [E.out]
  have hd1 : decide (n < -4611686018427387903) = false := by simp; omega
  have hd2 : decide (4611686018427387903 < n) = false := by simp; omega
  refine (callsIn_wide (n := 3)).1 ?_
  refine callsIn_of_wp_marks Tryd.func12 rfl trivial ?_
  simp only [Tryd.ntmps12, List.size_toArray, List.length_cons, List.length_nil, Nat.reduceAdd, Nat.reduceSub, Array.replicate_succ, Array.replicate_zero, List.push_toArray, List.append_toArray, List.nil_append, List.cons_append]
  gi_wp2_with (first
    | (refine ⟨trivial, ?_⟩; gi_at_call 24; refine (callsIn_wide.2 (fold_any n _ h1 h2)).mono ?_; rintro e w' ⟨rfl, rfl⟩)
    | (refine ⟨trivial, ?_⟩; gi_at_call 23; refine (callsIn_wide.2 (groups_any _ _)).mono ?_; rintro e w' ⟨rfl, rfl⟩))
  have bO := Boxed.new w 38 (.slice none 0 0)
  have bZ := Boxed.new (w.alloc (.cells #[.slice none 0 0] 38)) 49 (.int .u64 (foldZ n))
  rw [World.size_alloc] at bZ
  have hB0 : Below w.heap.size w ((w.alloc (.cells #[.slice none 0 0] 38)).alloc (.cells #[.int .u64 (foldZ n)] 49)) := ((Below.refl _ w).alloc (Nat.le_refl _) _).alloc (by simp) _
  have HZ := Lib.hid hz
  have e9 : (128 : Nat) ^ (8 + 1) = 9223372036854775808 := by decide
  have hlen : (encB (foldZ n)).length ≤ 9 := encB_len 8 _ (by omega)
  clear e9
  clear hz
  refine wpIn_rangeFunc_cell rfl (by omega) (gf := 27) (lb := #[.pointer (some ⟨w.heap.size + 1, 0, none⟩)]) rfl trivial (enters_of Tryd.func27 (by kernel_rfl) rfl)
    (w.heap.size + 1) (by simp) (groups_seq Fence.wide 2 trivial rfl (by omega) (w.heap.size + 1) (foldZ n) (by have := HZ.out; omega))
    (fun o o' => ⟨((bZ.alloc o).alloc o').cell, ((bZ.alloc o).alloc o').frozen⟩) (fun _ => rfl)
    (fun pre W => ((∃ v, Boxed W w.heap.size 38 v ∧ W.ownsRow (w.heap.size + 2) 5 1 v pre.length (pre.map byteV)) ∧ Below w.heap.size w W) ∧ w.heap.size + 2 ≤ W.heap.size)
    (fun _ _ _ => False)
    (OwnFrom.and (OwnFrom.and (Own.from (fun s X Y row hs hg hr => by
      have := holdsRow_own (w.heap.size + 2) w.heap.size 38 5 1 (fun pre : List UInt8 => pre.length) (fun pre => pre.map byteV) (fun _ _ => True) s X Y row (by obtain ⟨v, h1, h2⟩ := hs; exact ⟨v, h1, h2, trivial⟩) hg hr
      obtain ⟨v, h1, h2, _⟩ := this
      exact ⟨v, h1, h2⟩) _) (ownFrom_below (Nat.le_refl _) (by simp; omega))) (fun _ _ _ _ hs hg _ => Nat.le_trans hs hg.size))
    (fun _ _ _ _ _ hs _ _ => hs)
    (fun s A A' hs hg _ => by
      obtain ⟨⟨⟨v, hv, hr⟩, hB⟩, hS⟩ := hs
      refine ⟨⟨⟨v, hv.kept hg (by simp), hr.kept hg ?_⟩, hB.grown hg hB.size (fun k e => by cases e; omega)⟩, Nat.le_trans hS hg.size⟩
      rcases hr.2 with ⟨rfl, _⟩ | ⟨g, cap, cur, rfl, hgb, _⟩
      · exact .inl rfl
      · exact .inr (by simp [Value.ownBlock]; omega))
    (fun _ _ _ _ hs _ _ => hs)
    ⟨⟨⟨_, bO.alloc _, World.ownsRow_nil _ _ _ _⟩, hB0⟩, by simp⟩
    (fun x => { tmps := #[.int .i64 n, undef, .string ⟨#[]⟩, .int .i64 0, .pointer (some ⟨w.heap.size, 0, none⟩), .int .u8 x.toNat, .int .i64 n, .bool false, .bool false, .int .i64 n, .bool false, .bool false, .int .i64 n, .int .u64 (foldZ n), .func (.func 27) #[] #[.pointer (some ⟨w.heap.size + 1, 0, none⟩)], .int .u8 x.toNat, undef, undef, undef, undef, undef, undef], defers := [] }) ?assign ?body ?done ?stop
  case assign =>
    intro l x W K hK
    gi_wp2
    exact hK
  case body =>
    rintro l pre x W ⟨⟨⟨v, hv, hrow⟩, hB⟩, hS⟩ hpre
    have hc := hv.cell
    have hf := hv.frozen
    have hpl : pre.length ≤ 8 := by
      have := hpre.length_le
      simp at this
      omega
    have hBs := hB.size
    have HS := Lib.hid hS
    have hvb : some (w.heap.size + 1) ≠ v.ownBlock := by
      rcases hrow.2 with ⟨rfl, _⟩ | ⟨g, cap, cur, rfl, hgb, _⟩
      · simp [Value.ownBlock]
      · simp [Value.ownBlock]; omega
    have HV := Lib.hid hvb
    clear hvb
    gi_wp2_with (gi_at_builtin; refine wpListIn_append_own _ rfl _ _ 38 rfl (w.heap.size + 2) 5 i0 (.int .u8 0) 1 1 Tryd.underlying38 hi hz0 hz1 hz2 rfl (by decide) _ _ _ rfl (hrow.alloc _) ⟨W.heap.size, 0, none⟩ 1 1 [byteV x] rfl rfl (cell_one_new _ _ _) (by simp [Value.oneCell']) (by unfold maxLen; omega) (by omega) (by have := HS.out; simp; omega) ?_; intro v' w1 hown' hgrow _; obtain ⟨g', cap', rfl⟩ := ownsRow_succ hown'; obtain ⟨hv1, hv2, _, hk2, hb2⟩ := hv.appended (by decide) (ownsRow_weaken hrow (by omega)) hBs (Nat.le_refl _) (ownsRow_weaken hown' (by omega)) hgrow; have hr2 := hown'.kept (grownBy_setCell' w1 w.heap.size (.slice (some ⟨g', 0, none⟩) (pre.length + 1) cap')) (.inr (hv1.not_row (by decide) hown').symm); have hc1 := hv1.cell; have hf1 := hv1.frozen)
    refine ⟨hk2, ?_, ⟨⟨_, hv2, by simpa using hr2⟩, hB.trans hb2⟩, Nat.le_trans HS.out hb2.size⟩
    rw [Below.heap_setCell _ _ _ _ (by simp), hgrow.block _ (by have := HS.out; simp; omega) HV.out, Below.heap_alloc _ _ _ (by have := HS.out; omega)]
  case done =>
    rintro W ⟨⟨⟨v, hv, hrow⟩, hB⟩, hS⟩ hK
    have hc := hv.cell
    have hne := encB_ne (foldZ n)
    obtain ⟨k, hk⟩ : ∃ k, (encB (foldZ n)).length = k + 1 := ⟨(encB (foldZ n)).length - 1, by have := List.length_pos_iff.2 hne; omega⟩
    have hrow' := hrow
    rw [hk] at hrow'
    obtain ⟨g, cap, rfl⟩ := ownsRow_succ hrow'
    have hcells := ownsRow_bytes hrow
    have hconv := run_convert_bytes_back (P := Tryd.prog) W 38 9 5 ⟨g, 0, none⟩ cap (encB (foldZ n)) Tryd.underlying38 Tryd.underlying5 Tryd.underlying9 hcells
    rw [hk] at hconv
    have HK := Lib.hid hk
    clear hk hcells hne
    gi_wp2
    refine ⟨by simp, .inl ⟨_, _, rfl, run_takeDeferred hK, ?_⟩⟩
    exact ⟨_, results_tmp2 rfl _ _ _, rfl, hB.trans (belowK_b (w := w) (Nat.le_refl _) W _ _ _ (by simp; omega) hK rfl rfl)⟩
  case stop =>
    rintro c pre W _ h _
    exact h.elim
end Go.Proofs.YtncmbgdpmfoohaaDoor
