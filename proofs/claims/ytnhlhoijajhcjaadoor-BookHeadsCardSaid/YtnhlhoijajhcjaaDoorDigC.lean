/- SHA-256: the words of a block. -/
import Derived.Test.YtnhlhoijajhcjaaDoorDigB
import Derived.Test.YtnhlhoijajhcjaaDoorFloat
import Derived.BigRegion
import Derived.Deep.WholeRow
import Derived.Deep.RegionWith
import Derived.Deep.RegionHeld3
import Derived.Deep.DeepCutAuto
set_option linter.unusedVariables false
set_option linter.unusedSimpArgs false
set_option linter.unnecessarySimpa false
namespace Go.Proofs.YtnhlhoijajhcjaaDoor
open Go.RowKit

/-- words, with zeros behind them -/
def pad (ws : List Nat) : List Nat := ws ++ List.replicate (64 - ws.length) 0
theorem pad_length {ws : List Nat} (h : ws.length ≤ 64) : (pad ws).length = 64 := by simp [pad]; omega
theorem pad_set {ws : List Nat} (h : ws.length < 64) (v : Nat) : (pad ws).set ws.length v = pad (ws ++ [v]) := by
  unfold pad
  obtain ⟨n, hn⟩ : ∃ n, 64 - ws.length = n + 1 := ⟨63 - ws.length, by omega⟩
  have e : 64 - (ws ++ [v]).length = n := by simp; omega
  rw [hn, e, List.replicate_succ, List.set_append_right _ _ (Nat.le_refl _), Nat.sub_self]
  simp
theorem pad_full {ws : List Nat} (h : ws.length = 64) : pad ws = ws := by simp [pad, h]
theorem pad_get {ws : List Nat} {i : Nat} (h : i < ws.length) : (pad ws)[i]? = some ws[i] := by
  unfold pad
  rw [List.getElem?_append_left h, List.getElem?_eq_getElem h]
theorem zeros_pad : (List.replicate 64 (Value.int .u32 0)) = (pad []).map wordV := by simp [pad]
theorem set_map (l : List Nat) (i v : Nat) : (l.map wordV).set i (wordV v) = (l.set i v).map wordV := by rw [List.map_set]

theorem word_eq {a b c d : Nat} (ha : a < 256) (hb : b < 256) (hc : c < 256) (hd : d < 256) :
    bits BinOp.or .u32 (bits BinOp.or .u32 (bits BinOp.or .u32 ((a : Int) * 16777216) ((b : Int) * 65536)) ((c : Int) * 256)) (d : Int) = ((Sha.word4 a b c d : Nat) : Int) ∧ Sha.word4 a b c d < 2 ^ 32 := by
  have e1 : (a : Int) * (16777216 : Int) = ((a <<< 24 : Nat) : Int) := by rw [Nat.shiftLeft_eq]; omega
  have e2 : (b : Int) * (65536 : Int) = ((b <<< 16 : Nat) : Int) := by rw [Nat.shiftLeft_eq]; omega
  have e3 : (c : Int) * (256 : Int) = ((c <<< 8 : Nat) : Int) := by rw [Nat.shiftLeft_eq]; omega
  have b1 : a <<< 24 < 2 ^ 32 := by rw [Nat.shiftLeft_eq]; omega
  have b2 : b <<< 16 < 2 ^ 32 := by rw [Nat.shiftLeft_eq]; omega
  have b3 : c <<< 8 < 2 ^ 32 := by rw [Nat.shiftLeft_eq]; omega
  rw [e1, e2, e3, or32 b1 b2, or32 (Nat.or_lt_two_pow b1 b2) b3, or32 (Nat.or_lt_two_pow (Nat.or_lt_two_pow b1 b2) b3) (by omega)]
  exact ⟨rfl, Nat.or_lt_two_pow (Nat.or_lt_two_pow (Nat.or_lt_two_pow b1 b2) b3) (by omega)⟩
theorem word_lt {C : List Nat} (hb : ∀ x ∈ C, x < 256) (i : Nat) : Sha.word C i < 2 ^ 32 := by
  have h : ∀ k, C.getD k 0 < 256 := by
    intro k
    rw [List.getD_eq_getElem?_getD]
    cases e : C[k]? with
    | none => simp
    | some v => exact hb v (List.mem_of_getElem? e)
  exact (word_eq (h _) (h _) (h _) (h _)).2
theorem shr_eq (x k : Nat) (d : Int) (hd : d = ((2 ^ k : Nat) : Int)) : (x : Int) / d = ((x >>> k : Nat) : Int) := by
  subst hd
  rw [Nat.shiftRight_eq_div_pow]
  simp
theorem shr_lt {x : Nat} (k : Nat) (hx : x < 2 ^ 32) : x >>> k < 2 ^ 32 := by
  rw [Nat.shiftRight_eq_div_pow]
  exact Nat.lt_of_le_of_lt (Nat.div_le_self _ _) hx
theorem sig0_eq {x : Nat} (hx : x < 2 ^ 32) : bits BinOp.xor .u32 ((turnedN x [7, 18] : Nat) : Int) ((x : Int) / 8) = ((Sha.sig0 x : Nat) : Int) ∧ Sha.sig0 x < 2 ^ 32 := by
  rw [shr_eq x 3 8 (by decide), xor32 (turnedN_lt x hx _) (shr_lt 3 hx)]
  have e : turnedN x [7, 18] = Sha.rot x 7 ^^^ Sha.rot x 18 := by simp [turnedN]
  rw [e]
  exact ⟨rfl, Nat.xor_lt_two_pow (Nat.xor_lt_two_pow (rot_lt x 7 hx) (rot_lt x 18 hx)) (shr_lt 3 hx)⟩
theorem sig1_eq {x : Nat} (hx : x < 2 ^ 32) : bits BinOp.xor .u32 ((turnedN x [17, 19] : Nat) : Int) ((x : Int) / 1024) = ((Sha.sig1 x : Nat) : Int) ∧ Sha.sig1 x < 2 ^ 32 := by
  rw [shr_eq x 10 1024 (by decide), xor32 (turnedN_lt x hx _) (shr_lt 10 hx)]
  have e : turnedN x [17, 19] = Sha.rot x 17 ^^^ Sha.rot x 19 := by simp [turnedN]
  rw [e]
  exact ⟨rfl, Nat.xor_lt_two_pow (Nat.xor_lt_two_pow (rot_lt x 17 hx) (rot_lt x 19 hx)) (shr_lt 10 hx)⟩
/-- turned at two rotations that were just laid -/
theorem turned_two (x k1 k2 b : Nat) (w : World) (hx : x < 2 ^ 32) (hR : Row w b 3 [natV k1, natV k2]) (h1 : k1 ∈ [2, 6, 7, 11, 13, 17, 18, 19, 22, 25]) (h2 : k2 ∈ [2, 6, 7, 11, 13, 17, 18, 19, 22, 25]) :
    Calls Tryd.prog 85 #[.int .u32 x, .slice (some ⟨b, 0, none⟩) 2 2] w fun e w' => e = .returned (.int .u32 (turnedN x [k1, k2])) ∧ w = w' :=
  turned_any x b 2 [k1, k2] w hx hR (by simp) (by
    intro k hk
    rcases List.mem_cons.1 hk with rfl | hk
    · exact h1
    · rcases List.mem_cons.1 hk with rfl | hk
      · exact h2
      · cases hk)
theorem infoWords : (Tryd.prog.info? 122).map (·.size) = some 64 := by kernel_rfl

set_option maxRecDepth 100000 in
set_option maxHeartbeats 1000000 in
theorem schedule_any (C : List Nat) (w : World) (hC : C.length = 64) (hb : ∀ x ∈ C, x < 256) :
    Calls Tryd.prog 79 #[.agg (C.map octV).toArray] w fun e w' => e = .returned (.agg ((Sha.schedule C).map wordV).toArray) ∧ Below w.heap.size w w' := by
  have HBY := Lib.hid hb
  clear hb
  go_enter Tryd.func79, Tryd.ntmps79
  go_wp2
  refine wp_named fun w0 hw => ?_
  have K0 : Row w0 w.heap.size 120 (C.map octV) ∧ Row w0 (w.heap.size + 1) 122 (List.replicate 64 (Value.int .u32 0)) ∧ Row w0 (w.heap.size + 1 + 1) 122 ((pad []).map wordV) ∧ Below w.heap.size w w0 := by
    rw [hw, ← zeros_pad]
    refine ⟨((Row.new _ _ _).alloc _).alloc _, ?_, ?_, ?_⟩
    · have := (Row.new (w.alloc (Obj.cells (C.map octV).toArray 120)) 122 (List.replicate 64 (Value.int .u32 0))).alloc (Obj.cells (List.replicate 64 (Value.int .u32 0)).toArray 122)
      rwa [World.size_alloc] at this
    · have := Row.new ((w.alloc (Obj.cells (C.map octV).toArray 120)).alloc (Obj.cells (List.replicate 64 (Value.int .u32 0)).toArray 122)) 122 (List.replicate 64 (Value.int .u32 0))
      rwa [World.size_alloc, World.size_alloc] at this
    · exact (((Below.refl _ w).alloc (Nat.le_refl _) _).alloc (by simp) _).alloc (by simp; omega) _
  clear hw
  obtain ⟨b0, e0⟩ : ∃ b, b = w.heap.size := ⟨_, rfl⟩
  obtain ⟨b1, e1⟩ : ∃ b, b = w.heap.size + 1 := ⟨_, rfl⟩
  obtain ⟨b2, e2⟩ : ∃ b, b = w.heap.size + 1 + 1 := ⟨_, rfl⟩
  rw [← e2, ← e1, ← e0] at K0
  rw [← e2, ← e1, ← e0]
  have HK := Lib.hid K0
  have HE := Lib.hid (And.intro e0 (And.intro e1 e2))
  clear K0 e0 e1 e2
  go_loopw [8] (fun i wr => ∃ j : Nat, j ≤ 16 ∧ i = .int .i64 j ∧ Row wr b0 120 (C.map octV) ∧ Row wr b1 122 (List.replicate 64 (Value.int .u32 0)) ∧ Row wr b2 122 ((pad ((List.range j).map (Sha.word C))).map wordV) ∧ Below b0 w wr) (fun i _ => 16 - (intOf i).toNat)
  case atStart => exact ⟨0, by omega, rfl, HK.out.1, HK.out.2.1, HK.out.2.2.1, HK.out.2.2.2⟩
  case round =>
    obtain ⟨j, hj, rfl, r0, r1, r2, hB⟩ := hrel
    by_cases hlt : j < 16
    · have hl : ((List.range j).map (Sha.word C)).length = j := by simp
      have q0 : 4 * j < C.length := by omega
      have q1 : 4 * j + 1 < C.length := by omega
      have q2 : 4 * j + 2 < C.length := by omega
      have q3 : 4 * j + 3 < C.length := by omega
      have c0 := r0.cell (4 * j)
      have c1 := r0.cell (4 * j + 1)
      have c2 := r0.cell (4 * j + 2)
      have c3 := r0.cell (4 * j + 3)
      rw [List.getElem?_map, List.getElem?_eq_getElem q0, Option.map_some] at c0
      rw [List.getElem?_map, List.getElem?_eq_getElem q1, Option.map_some] at c1
      rw [List.getElem?_map, List.getElem?_eq_getElem q2, Option.map_some] at c2
      rw [List.getElem?_map, List.getElem?_eq_getElem q3, Option.map_some] at c3
      have l0 := r0.lt
      have hW := word_eq (HBY.out _ (List.getElem_mem q0)) (HBY.out _ (List.getElem_mem q1)) (HBY.out _ (List.getElem_mem q2)) (HBY.out _ (List.getElem_mem q3))
      have hX : Sha.word4 C[4 * j] C[4 * j + 1] C[4 * j + 2] C[4 * j + 3] = Sha.word C j := by
        unfold Sha.word
        simp only [List.getD, List.getElem?_eq_getElem q0, List.getElem?_eq_getElem q1, List.getElem?_eq_getElem q2, List.getElem?_eq_getElem q3, Option.getD_some]
      rw [hX] at hW
      have d0 := HBY.out _ (List.getElem_mem q0)
      have d1 := HBY.out _ (List.getElem_mem q1)
      have d2 := HBY.out _ (List.getElem_mem q2)
      have d3 := HBY.out _ (List.getElem_mem q3)
      clear HK
      generalize C[4 * j] = x0 at *
      generalize C[4 * j + 1] = x1 at *
      generalize C[4 * j + 2] = x2 at *
      generalize C[4 * j + 3] = x3 at *
      have HW := Lib.hid hW
      have HR := Lib.hid (And.intro r0 (And.intro r1 (And.intro r2 (And.intro hB hl))))
      clear hX hW q0 q1 q2 q3 r0 r1 r2 hB hl
      go_upto_region 5 with (fail)
      refine wp_region_kin_tail 31 (by kernel_rfl) (by kernel_rfl) wr.heap.size 0 (by simp) (fun hk => ?_)
      simp only [List.take_succ_cons, List.take_zero, List.drop_succ_cons, List.drop_zero]
      repeat (go_big_quiet_step (fail))
      refine wpQuiet_nil ?_
      clear hk
      intro W2 hb
      have R := HR.out
      have hc2 := (R.2.2.1.next hb).cell j
      have hf2 := (R.2.2.1.next hb).frozen j
      obtain ⟨old, ho⟩ : ∃ old, (List.map wordV (pad (List.map (Sha.word C) (List.range j))))[j]? = some old := ⟨_, List.getElem?_eq_getElem (by rw [List.length_map, pad_length (by omega)]; omega)⟩
      rw [ho] at hc2
      have HB2 := Lib.hid hb
      rw [HW.out.1]
      clear R ho hb
      go_wp2
      go_roundw
      case rel =>
        obtain ⟨r0, r1, r2, hB, hl⟩ := HR.out
        have hb := HB2.out
        refine ⟨j + 1, by omega, by go_num, (r0.next hb).other (by have := HE.out; omega) _ _, (r1.next hb).other (by have := HE.out; omega) _ _, ?_, ?_⟩
        · have := (r2.next hb).set j (wordV (Sha.word C j))
          rw [set_map] at this
          have e := pad_set (ws := (List.range j).map (Sha.word C)) (by omega) (Sha.word C j)
          rw [hl] at e
          rw [e] at this
          rw [List.range_succ, List.map_append]
          exact this
        · exact (hB.trans (hb.mono (by have := hB.size; have := HE.out; have := r0.lt; omega))).setCell (p := ⟨b2, j, none⟩) (by have := HE.out; show b0 ≤ b2; omega) _
      case measure => simp [intOf]; omega
    · obtain rfl : j = 16 := by omega
      have HR := Lib.hid (And.intro r0 (And.intro r1 (And.intro r2 hB)))
      clear r0 r1 r2 hB hlt hj HK
      go_wp2_with fail
      rename World => wz
      go_loopw [5] (fun i wr => ∃ ws : List Nat, 16 ≤ ws.length ∧ ws.length ≤ 64 ∧ i = .int .i64 ws.length ∧ Sha.spread ws (64 - ws.length) = Sha.schedule C ∧ (∀ x ∈ ws, x < 2 ^ 32) ∧ Row wr b1 122 (List.replicate 64 (Value.int .u32 0)) ∧ Row wr b2 122 ((pad ws).map wordV) ∧ Below b0 w wr) (fun i _ => 64 - (intOf i).toNat)
      case atStart =>
        refine ⟨(List.range 16).map (Sha.word C), by simp, by simp, rfl, rfl, ?_, HR.out.2.1, HR.out.2.2.1, HR.out.2.2.2⟩
        intro x hx
        obtain ⟨i, _, rfl⟩ := List.mem_map.1 hx
        exact word_lt HBY.out i
      case round =>
        obtain ⟨ws, hl0, hl1, rfl, hs, hw, r1, r2, hB⟩ := hrel
        clear HR
        by_cases hlt : ws.length < 64
        · have h16 : ws.length - 16 < ws.length := by omega
          have h15 : ws.length - 15 < ws.length := by omega
          have h7 : ws.length - 7 < ws.length := by omega
          have h2 : ws.length - 2 < ws.length := by omega
          have HN := Lib.hid (show Sha.next ws = (ws[ws.length - 16] + Sha.sig0 ws[ws.length - 15] + ws[ws.length - 7] + Sha.sig1 ws[ws.length - 2]) % 4294967296 by
            simp only [Sha.next, List.getD, List.getElem?_eq_getElem h16, List.getElem?_eq_getElem h15, List.getElem?_eq_getElem h7, List.getElem?_eq_getElem h2, Option.getD_some])
          have k16 := r2.cell (ws.length - 16)
          have k15 := r2.cell (ws.length - 15)
          have k7 := r2.cell (ws.length - 7)
          have k2 := r2.cell (ws.length - 2)
          rw [List.getElem?_map, pad_get h16, Option.map_some] at k16
          rw [List.getElem?_map, pad_get h15, Option.map_some] at k15
          rw [List.getElem?_map, pad_get h7, Option.map_some] at k7
          rw [List.getElem?_map, pad_get h2, Option.map_some] at k2
          have w16 := hw _ (List.getElem_mem h16)
          have w15 := hw _ (List.getElem_mem h15)
          have w7 := hw _ (List.getElem_mem h7)
          have w2 := hw _ (List.getElem_mem h2)
          have K16 := Lib.hid (pad_get h16)
          have K7 := Lib.hid (pad_get h7)
          have KEEP := Lib.hid (And.intro hs (And.intro hw (And.intro r1 (And.intro r2 hB))))
          have l2 := r2.lt
          clear hs hw r1 r2 hB
          generalize ws[ws.length - 16] = x16 at *
          generalize ws[ws.length - 15] = x15 at *
          generalize ws[ws.length - 7] = x7 at *
          generalize ws[ws.length - 2] = x2 at *
          have f16 : ((ws.length : Nat) : Int) - 16 = ((ws.length - 16 : Nat) : Int) := by omega
          have g16 : ws.length - 16 < 64 := by omega
          generalize ws.length - 16 = a16 at *
          have gi16 : ((a16 : Nat) : Int) < 64 := by omega
          have wr16 : IntKind.i64.wrap ((a16 : Nat) : Int) = (a16 : Int) := by simp [IntKind.wrap, IntKind.bits, IntKind.signed]; omega
          clear h16
          have f15 : ((ws.length : Nat) : Int) - 15 = ((ws.length - 15 : Nat) : Int) := by omega
          have g15 : ws.length - 15 < 64 := by omega
          generalize ws.length - 15 = a15 at *
          have gi15 : ((a15 : Nat) : Int) < 64 := by omega
          have wr15 : IntKind.i64.wrap ((a15 : Nat) : Int) = (a15 : Int) := by simp [IntKind.wrap, IntKind.bits, IntKind.signed]; omega
          clear h15
          have f7 : ((ws.length : Nat) : Int) - 7 = ((ws.length - 7 : Nat) : Int) := by omega
          have g7 : ws.length - 7 < 64 := by omega
          generalize ws.length - 7 = a7 at *
          have gi7 : ((a7 : Nat) : Int) < 64 := by omega
          have wr7 : IntKind.i64.wrap ((a7 : Nat) : Int) = (a7 : Int) := by simp [IntKind.wrap, IntKind.bits, IntKind.signed]; omega
          clear h7
          have f2 : ((ws.length : Nat) : Int) - 2 = ((ws.length - 2 : Nat) : Int) := by omega
          have g2 : ws.length - 2 < 64 := by omega
          generalize ws.length - 2 = a2 at *
          have gi2 : ((a2 : Nat) : Int) < 64 := by omega
          have wr2 : IntKind.i64.wrap ((a2 : Nat) : Int) = (a2 : Int) := by simp [IntKind.wrap, IntKind.bits, IntKind.signed]; omega
          clear h2
          have s0 := Lib.hid (sig0_eq w15)
          have s1 := Lib.hid (sig1_eq w2)
          have CT0 := Lib.hid (fun b W (hR : Row W b 3 [.int .i64 7, .int .i64 18]) => turned_two x15 7 18 b W w15 hR (by simp) (by simp))
          have CT1 := Lib.hid (fun b W (hR : Row W b 3 [.int .i64 17, .int .i64 19]) => turned_two x2 17 19 b W w2 hR (by simp) (by simp))
          go_upto_region 10 with (fail)
          go_cut [6] (fun v wx => v = .int .u32 (Sha.sig0 x15) ∧ Below wr.heap.size wr wx)
          case first =>
            first | (go_region_held3 (fun w' => w'.cell? ⟨b2, a15, none⟩ = some (wordV x15)) (first | assumption | go_keep) (first | (go_at_call 85; with_reducible refine Calls.mono (CT0.out _ _ (by first | exact Row.new _ _ _ | exact (Row.new _ _ _).drew)) ?_; rintro e w' ⟨rfl, rfl⟩))) | fail
            go_wp2
            go_meet
            exact ⟨by rw [s0.out.1], ((Below.refl _ _).alloc (Nat.le_refl _) _).drew⟩
          obtain ⟨rfl, hB1⟩ := hcut
          rename World => wa
          have HK1 := Lib.hid hB1
          replace k2 := (hB1.cell (p := ⟨b2, a2, none⟩) l2).trans k2
          replace l2 := Nat.lt_of_lt_of_le l2 hB1.size
          clear CT0 k16 k15 k7 hB1
          go_upto_region 11 with (fail)
          go_cut [7] (fun v wx => v = .int .u32 (Sha.sig1 x2) ∧ Below wa.heap.size wa wx)
          case first =>
            first | (go_region_held3 (fun w' => w'.cell? ⟨b2, a2, none⟩ = some (wordV x2)) (first | assumption | go_keep) (first | (go_at_call 85; with_reducible refine Calls.mono (CT1.out _ _ (by first | exact Row.new _ _ _ | exact (Row.new _ _ _).drew)) ?_; rintro e w' ⟨rfl, rfl⟩))) | fail
            go_wp2
            go_meet
            exact ⟨by rw [s1.out.1], ((Below.refl _ _).alloc (Nat.le_refl _) _).drew⟩
          obtain ⟨rfl, hB2⟩ := hcut
          rename World => wb
          have HK2 := Lib.hid (Below.andThen HK1.out hB2)
          clear CT1 hB2 k2 HK1
          obtain ⟨hs, hw, r1, r2, hB⟩ := KEEP.out
          have j16 := ((r2.next HK2.out).cell a16)
          have j7 := ((r2.next HK2.out).cell a7)
          rw [List.getElem?_map, K16.out, Option.map_some] at j16
          rw [List.getElem?_map, K7.out, Option.map_some] at j7
          have w0' := s0.out.2
          have w1' := s1.out.2
          have HS := Lib.hid (And.intro s0.out.2 s1.out.2)
          clear s0 s1
          generalize Sha.sig0 x15 = y0 at *
          generalize Sha.sig1 x2 = y1 at *
          have KEEP := Lib.hid (And.intro hs (And.intro hw (And.intro r1 (And.intro r2 hB))))
          have l3 := Nat.lt_of_lt_of_le r2.lt HK2.out.size
          clear hs hw r1 r2 hB
          go_upto_region 12 with (fail)
          refine wp_region_kin_tail 15 (by kernel_rfl) (by kernel_rfl) wb.heap.size 0 (by simp) (fun hk => ?_)
          simp only [List.take_succ_cons, List.take_zero, List.drop_succ_cons, List.drop_zero]
          repeat (go_big_quiet_step (fail))
          refine wpQuiet_nil ?_
          clear hk
          intro W2 hb
          obtain ⟨hs, hw, r1, r2, hB⟩ := KEEP.out
          have HK3 := Lib.hid (Below.andThen HK2.out hb)
          have hc2 := (r2.next HK3.out).cell ws.length
          have hf2 := (r2.next HK3.out).frozen ws.length
          obtain ⟨old, ho⟩ : ∃ old, (List.map wordV (pad ws))[ws.length]? = some old := ⟨_, List.getElem?_eq_getElem (by rw [List.length_map, pad_length (by omega)]; omega)⟩
          rw [ho] at hc2
          have HV := Lib.hid (show ((x16 : Int) + y0 + x7 + y1) % 4294967296 = ((Sha.next ws : Nat) : Int) by rw [HN.out]; omega)
          clear hs hw r1 r2 hB ho hb HK2
          go_wp2
          go_roundw
          case rel =>
            obtain ⟨hs, hw, r1, r2, hB⟩ := KEEP.out
            have hb := HK3.out
            have hn32 : Sha.next ws < 2 ^ 32 := Nat.mod_lt _ (by decide)
            refine ⟨ws ++ [Sha.next ws], by simp; omega, by simp; omega, by simp, ?_, ?_, (r1.next hb).other (by have := HE.out; omega) _ _, ?_, ?_⟩
            · rw [← hs]
              have e : 64 - ws.length = (64 - (ws ++ [Sha.next ws]).length) + 1 := by simp; omega
              rw [e]
              rfl
            · intro x hx
              rcases List.mem_append.1 hx with hx | hx
              · exact hw x hx
              · rw [List.mem_singleton.1 hx]; exact hn32
            · have := (r2.next hb).set ws.length (wordV (Sha.next ws))
              rw [set_map, pad_set (by omega)] at this
              rw [HV.out]
              exact this
            · exact (hB.trans (hb.mono (by have := hB.size; have := HE.out; have := r2.lt; omega))).setCell (p := ⟨b2, _, none⟩) (by have := HE.out; show b0 ≤ b2; omega) _
          case measure => simp [intOf]; omega
        · obtain h64 : ws.length = 64 := by omega
          have e : ws = Sha.schedule C := by rw [← hs, h64]; rfl
          rw [pad_full h64, e] at r2
          have hlen : (Sha.schedule C).length = 64 := by rw [← e]; exact h64
          have hsz : (Tryd.prog.info? 122).map (·.size) = some ((Sha.schedule C).map wordV).toArray.size := by rw [infoWords]; simp [hlen]
          have R2 := Lib.hid r2
          have R1 := Lib.hid r1
          have SZ := Lib.hid hsz
          have O1 := Lib.hid (show ((Sha.schedule C).map wordV).toArray.all (·.oneCell') = true by simp [Value.oneCell'])
          have L1 := Lib.hid (show (List.replicate 64 (Value.int .u32 0)).toArray.size = ((Sha.schedule C).map wordV).toArray.size by simp [hlen])
          have HB := Lib.hid hB
          clear hs hw r1 r2 hB e hlen hsz
          go_upto_region 13 with (fail)
          go_wp2_with (first | (refine wpList_load_row rfl _ _ rfl b2 rfl 122 ((Sha.schedule C).map wordV).toArray (0, 0) _ R2.out Tryd.underlying122 rfl SZ.out ?_) | (refine wpList_store_row rfl _ _ _ rfl b1 ((Sha.schedule C).map wordV).toArray rfl rfl 122 _ R1.out SZ.out L1.out O1.out ?_))
          refine bodyPost_ret (v := .agg ((Sha.schedule C).map wordV).toArray) (results_cell_row rfl _ _ b1 122 ((Sha.schedule C).map wordV).toArray (0, 0) _ rfl (setRow_heap _ b1 _ _ _ _ R1.out) Tryd.underlying122 rfl SZ.out) rfl ⟨rfl, ?_⟩
          obtain ⟨rfl, rfl, rfl⟩ := HE.out
          exact HB.out.trans ⟨rfl, rfl, rfl, by simp, fun k hk => setRow_other _ (w.heap.size + 1) k _ (by omega)⟩
end Go.Proofs.YtnhlhoijajhcjaaDoor
