/- The reference's SHA-256: words turned, the constants, the bytes that are added to a string. -/
import Derived.Test.YtnhlhoijajhcjaaDoorDigF
import Derived.Test.YtnhlhoijajhcjaaDoorDhG
import Derived.OwnWalk
import Derived.Laws.AppendOwn
set_option linter.unusedVariables false
set_option linter.unusedSimpArgs false
set_option linter.unnecessarySimpa false
namespace Go.Proofs.YtnhlhoijajhcjaaDoor
open Go.RowKit

theorem rot_eq' (x K : Nat) (hx : x < 2 ^ 32) (hK : K ≤ 32) (c d : Int) (hc : c = ((2 ^ (32 - K) : Nat) : Int)) (hd : d = ((2 ^ K : Nat) : Int)) :
    bits BinOp.or IntKind.u32 ((x : Int) / d) (IntKind.u32.wrap ((x : Int) * c)) = ((Sha.rot x K : Nat) : Int) := by
  subst hc hd
  have e1 : IntKind.u32.wrap ((x : Int) * ((2 ^ (32 - K) : Nat) : Int)) = (((x <<< (32 - K)) % 4294967296 : Nat) : Int) := by
    rw [Nat.shiftLeft_eq]
    simp [IntKind.wrap, IntKind.bits, IntKind.signed]
  have e2 : (x : Int) / ((2 ^ K : Nat) : Int) = ((x >>> K : Nat) : Int) := by
    rw [Nat.shiftRight_eq_div_pow]
    simp
  have b2 : x >>> K < 2 ^ 32 := by
    rw [Nat.shiftRight_eq_div_pow]
    exact Nat.lt_of_le_of_lt (Nat.div_le_self _ _) hx
  rw [e1, e2, or32 b2 (Nat.mod_lt _ (by decide)), Nat.or_comm]
  rfl
set_option maxHeartbeats 400000 in
theorem refRot_2 (x : Nat) (w : World) (hx : x < 2 ^ 32) : Calls Tryd.prog 65 #[.int .u32 x, .int .i64 2] w fun e w' => e = .returned (.int .u32 (Sha.rot x 2)) ∧ Below w.heap.size w w' := by
  have E := Lib.hid (rot_eq' x 2 hx (by decide) (2 ^ 30) (2 ^ 2) (by decide) (by decide))
  go_enter Tryd.func65, Tryd.ntmps65
  go_wp2
  go_region
  go_wp2
  go_ret
  refine ⟨retv (vint (Eq.trans ?_ E.out)), (Below.refl _ _).drew⟩
  rfl
set_option maxHeartbeats 400000 in
theorem refRot_6 (x : Nat) (w : World) (hx : x < 2 ^ 32) : Calls Tryd.prog 65 #[.int .u32 x, .int .i64 6] w fun e w' => e = .returned (.int .u32 (Sha.rot x 6)) ∧ Below w.heap.size w w' := by
  have E := Lib.hid (rot_eq' x 6 hx (by decide) (2 ^ 26) (2 ^ 6) (by decide) (by decide))
  go_enter Tryd.func65, Tryd.ntmps65
  go_wp2
  go_region
  go_wp2
  go_ret
  refine ⟨retv (vint (Eq.trans ?_ E.out)), (Below.refl _ _).drew⟩
  rfl
set_option maxHeartbeats 400000 in
theorem refRot_7 (x : Nat) (w : World) (hx : x < 2 ^ 32) : Calls Tryd.prog 65 #[.int .u32 x, .int .i64 7] w fun e w' => e = .returned (.int .u32 (Sha.rot x 7)) ∧ Below w.heap.size w w' := by
  have E := Lib.hid (rot_eq' x 7 hx (by decide) (2 ^ 25) (2 ^ 7) (by decide) (by decide))
  go_enter Tryd.func65, Tryd.ntmps65
  go_wp2
  go_region
  go_wp2
  go_ret
  refine ⟨retv (vint (Eq.trans ?_ E.out)), (Below.refl _ _).drew⟩
  rfl
set_option maxHeartbeats 400000 in
theorem refRot_11 (x : Nat) (w : World) (hx : x < 2 ^ 32) : Calls Tryd.prog 65 #[.int .u32 x, .int .i64 11] w fun e w' => e = .returned (.int .u32 (Sha.rot x 11)) ∧ Below w.heap.size w w' := by
  have E := Lib.hid (rot_eq' x 11 hx (by decide) (2 ^ 21) (2 ^ 11) (by decide) (by decide))
  go_enter Tryd.func65, Tryd.ntmps65
  go_wp2
  go_region
  go_wp2
  go_ret
  refine ⟨retv (vint (Eq.trans ?_ E.out)), (Below.refl _ _).drew⟩
  rfl
set_option maxHeartbeats 400000 in
theorem refRot_13 (x : Nat) (w : World) (hx : x < 2 ^ 32) : Calls Tryd.prog 65 #[.int .u32 x, .int .i64 13] w fun e w' => e = .returned (.int .u32 (Sha.rot x 13)) ∧ Below w.heap.size w w' := by
  have E := Lib.hid (rot_eq' x 13 hx (by decide) (2 ^ 19) (2 ^ 13) (by decide) (by decide))
  go_enter Tryd.func65, Tryd.ntmps65
  go_wp2
  go_region
  go_wp2
  go_ret
  refine ⟨retv (vint (Eq.trans ?_ E.out)), (Below.refl _ _).drew⟩
  rfl
set_option maxHeartbeats 400000 in
theorem refRot_17 (x : Nat) (w : World) (hx : x < 2 ^ 32) : Calls Tryd.prog 65 #[.int .u32 x, .int .i64 17] w fun e w' => e = .returned (.int .u32 (Sha.rot x 17)) ∧ Below w.heap.size w w' := by
  have E := Lib.hid (rot_eq' x 17 hx (by decide) (2 ^ 15) (2 ^ 17) (by decide) (by decide))
  go_enter Tryd.func65, Tryd.ntmps65
  go_wp2
  go_region
  go_wp2
  go_ret
  refine ⟨retv (vint (Eq.trans ?_ E.out)), (Below.refl _ _).drew⟩
  rfl
set_option maxHeartbeats 400000 in
theorem refRot_18 (x : Nat) (w : World) (hx : x < 2 ^ 32) : Calls Tryd.prog 65 #[.int .u32 x, .int .i64 18] w fun e w' => e = .returned (.int .u32 (Sha.rot x 18)) ∧ Below w.heap.size w w' := by
  have E := Lib.hid (rot_eq' x 18 hx (by decide) (2 ^ 14) (2 ^ 18) (by decide) (by decide))
  go_enter Tryd.func65, Tryd.ntmps65
  go_wp2
  go_region
  go_wp2
  go_ret
  refine ⟨retv (vint (Eq.trans ?_ E.out)), (Below.refl _ _).drew⟩
  rfl
set_option maxHeartbeats 400000 in
theorem refRot_19 (x : Nat) (w : World) (hx : x < 2 ^ 32) : Calls Tryd.prog 65 #[.int .u32 x, .int .i64 19] w fun e w' => e = .returned (.int .u32 (Sha.rot x 19)) ∧ Below w.heap.size w w' := by
  have E := Lib.hid (rot_eq' x 19 hx (by decide) (2 ^ 13) (2 ^ 19) (by decide) (by decide))
  go_enter Tryd.func65, Tryd.ntmps65
  go_wp2
  go_region
  go_wp2
  go_ret
  refine ⟨retv (vint (Eq.trans ?_ E.out)), (Below.refl _ _).drew⟩
  rfl
set_option maxHeartbeats 400000 in
theorem refRot_22 (x : Nat) (w : World) (hx : x < 2 ^ 32) : Calls Tryd.prog 65 #[.int .u32 x, .int .i64 22] w fun e w' => e = .returned (.int .u32 (Sha.rot x 22)) ∧ Below w.heap.size w w' := by
  have E := Lib.hid (rot_eq' x 22 hx (by decide) (2 ^ 10) (2 ^ 22) (by decide) (by decide))
  go_enter Tryd.func65, Tryd.ntmps65
  go_wp2
  go_region
  go_wp2
  go_ret
  refine ⟨retv (vint (Eq.trans ?_ E.out)), (Below.refl _ _).drew⟩
  rfl
set_option maxHeartbeats 400000 in
theorem refRot_25 (x : Nat) (w : World) (hx : x < 2 ^ 32) : Calls Tryd.prog 65 #[.int .u32 x, .int .i64 25] w fun e w' => e = .returned (.int .u32 (Sha.rot x 25)) ∧ Below w.heap.size w w' := by
  have E := Lib.hid (rot_eq' x 25 hx (by decide) (2 ^ 7) (2 ^ 25) (by decide) (by decide))
  go_enter Tryd.func65, Tryd.ntmps65
  go_wp2
  go_region
  go_wp2
  go_ret
  refine ⟨retv (vint (Eq.trans ?_ E.out)), (Below.refl _ _).drew⟩
  rfl
theorem refConst_any (w : World) : Calls Tryd.prog 66 #[] w fun e w' => e = .returned (.slice (some ⟨w.heap.size, 0, none⟩) 64 64) ∧ Row w' w.heap.size 68 (Sha.K.map wordV) ∧ Below w.heap.size w w' := by
  go_enter Tryd.func66, Tryd.ntmps66
  go_wp2
  go_ret
  exact ⟨rfl, Row.new w _ (Sha.K.map wordV), (Below.refl _ _).alloc (Nat.le_refl _) _⟩

/-! ### the bytes that are added -/
def extL (l : List Nat) : List Nat := (Sha.blocks l).flatten
def padN (n : Nat) : Nat := if n % 64 < 56 then 55 - n % 64 else 119 - n % 64
def lenB (n : Nat) : List Nat := (List.range 8).map fun k => n * 8 / 2 ^ (8 * (7 - k)) % 256
theorem fulls_flat (l : List Nat) (k : Nat) (h : 64 * k ≤ l.length) : (fulls l k).flatten = l.take (64 * k) := by
  induction k with
  | zero => simp [fulls]
  | succ k ih =>
    rw [fulls_more, List.flatten_append, ih (by omega), show 64 * (k + 1) = 64 * k + 64 by omega, List.take_add]
    simp
theorem lenB_eq (n : Nat) (h : n ≤ 2 ^ 50) : lenB n = Sha.octets [n * 8 / 4294967296 % 4294967296, n * 8 % 4294967296] := by
  simp only [lenB, Sha.octets, Sha.octet, List.map_cons, List.map_nil, List.flatten_cons, List.flatten_nil, List.append_nil, List.cons_append, List.nil_append]
  have e : List.range 8 = [0, 1, 2, 3, 4, 5, 6, 7] := rfl
  rw [e]
  simp only [List.map_cons, List.map_nil, Nat.reduceSub, Nat.reduceMul, Nat.reducePow, List.cons.injEq, and_true]
  omega
theorem extL_eq (l : List Nat) (h : l.length ≤ 2 ^ 50) : extL l = l ++ 128 :: (List.replicate (padN l.length) 0 ++ lenB l.length) := by
  rw [extL, blocks_fulls, List.flatten_append, fulls_flat _ _ (by omega), lenB_eq _ h]
  have hd : (l.drop (64 * (l.length / 64))).length = l.length % 64 := by rw [List.length_drop]; omega
  have hl : ∀ X, l.take (64 * (l.length / 64)) ++ (l.drop (64 * (l.length / 64)) ++ X) = l ++ X := fun X => by rw [← List.append_assoc, List.take_append_drop]
  unfold Sha.last padN
  dsimp only
  rw [hd]
  generalize Sha.octets [l.length * 8 / 4294967296 % 4294967296, l.length * 8 % 4294967296] = L
  by_cases hc : l.length % 64 < 56
  · rw [if_pos hc, if_pos hc, List.flatten_singleton]
    simp only [List.append_assoc, List.cons_append, hl]
  · rw [if_neg hc, if_neg hc]
    have e : 119 - l.length % 64 = (63 - l.length % 64) + 56 := by omega
    rw [e, ← List.replicate_append_replicate]
    simp only [List.flatten_cons, List.flatten_nil, List.append_nil, List.append_assoc, List.cons_append, hl]
theorem padN_lt (n : Nat) : padN n ≤ 63 := by unfold padN; split <;> omega
theorem padN_at (n : Nat) : (n + 1 + padN n) % 64 = 56 := by unfold padN; split <;> omega
theorem padN_not (n m : Nat) (h : m < padN n) : (n + 1 + m) % 64 ≠ 56 := by unfold padN at h; split at h <;> omega
theorem extL_length (l : List Nat) (h : l.length ≤ 2 ^ 50) : (extL l).length = 64 * (Sha.blocks l).length := by
  have hb : ∀ bs : List (List Nat), (∀ b ∈ bs, b.length = 64) → bs.flatten.length = 64 * bs.length := by
    intro bs
    induction bs with
    | nil => intro _; rfl
    | cons b bs ih =>
      intro hb
      rw [List.flatten_cons, List.length_append, ih (fun x hx => hb x (List.mem_cons_of_mem _ hx)), hb b List.mem_cons_self, List.length_cons]
      omega
  refine hb _ ?_
  intro b hm
  rw [blocks_fulls] at hm
  rcases List.mem_append.1 hm with h1 | h1
  · obtain ⟨i, hi, rfl⟩ := List.mem_map.1 h1
    have hi := List.mem_range.1 hi
    rw [List.length_take, List.length_drop]; omega
  · have h8 : (Sha.octets [l.length * 8 / 4294967296 % 4294967296, l.length * 8 % 4294967296]).length = 8 := by rw [octets_length]; rfl
    have hd : (l.drop (64 * (l.length / 64))).length = l.length % 64 := by rw [List.length_drop]; omega
    unfold Sha.last at h1
    dsimp only at h1
    rw [hd] at h1
    split at h1
    · rw [List.mem_singleton.1 h1]; simp [h8]; omega
    · rcases List.mem_cons.1 h1 with rfl | h1
      · simp; omega
      · rw [List.mem_singleton.1 h1]; simp [h8]
def lenV : Value → Nat
  | .slice _ n _ => n
  | _ => 0
theorem own_len {W : World} {b k : Nat} {e : TypeId} {size : Nat} {v : Value} {xs : List Value} (h : W.ownsRow b e size v k xs) : ∃ a cap, v = .slice a k cap := by
  rcases h.2 with ⟨rfl, rfl⟩ | ⟨g, cap, cur, rfl, _⟩
  · exact ⟨none, 0, rfl⟩
  · exact ⟨_, _, rfl⟩

set_option maxRecDepth 100000 in
set_option maxHeartbeats 2000000 in
theorem refExt_any (s : ByteArray) (w : World) (hs : s.size ≤ 2 ^ 40) :
    Calls Tryd.prog 35 #[.string s] w fun e w' => ∃ v, e = .returned v ∧ Below w.heap.size w w' ∧ w'.ownsRow w.heap.size 5 1 v (extL (natBytes s)).length ((extL (natBytes s)).map octV) := by
  obtain ⟨i0, hi, hz0, hz1, hz2⟩ := info_parts infoByte
  have hnl := natBytes_length s
  have HNL := Lib.hid hnl
  have HE := Lib.hid (extL_eq (natBytes s) (by omega))
  rw [hnl] at HE
  clear hnl
  go_enter Tryd.func35, Tryd.ntmps35
  go_wp2
  go_loopw [3, 4] (fun v i wr => ∃ j : Nat, j ≤ s.size ∧ i = .int .i64 j ∧ wr.ownsRow w.heap.size 5 1 v j (((natBytes s).take j).map octV) ∧ Below w.heap.size w wr) (fun _ i _ => s.size - (intOf i).toNat)
  case atStart => exact ⟨0, Nat.zero_le _, rfl, World.ownsRow_nil _ _ _ _, Below.refl _ _⟩
  case round =>
    obtain ⟨j, hj, rfl, hrow, hB⟩ := hrel
    by_cases hlt : j < s.size
    · have i1 := fun (w : World) => run_index_at (P := Tryd.prog) w 9 s .i64 j rfl hlt
      have HT := Lib.hid (show ((natBytes s).take (j + 1)).map octV = ((natBytes s).take j).map octV ++ [octV s[j].toNat] by
        rw [List.take_succ_eq_append_getElem (by rw [HNL.out]; exact hlt), List.map_append]
        simp [natBytes]
        rfl)
      have hob := own_block hrow
      have HB := Lib.hid hB
      have hbs := hB.size
      clear hB
      generalize s[j].toNat = x at *
      go_wp2_with (at_builtin; refine wpList_append_own _ rfl _ _ 56 rfl w.heap.size 5 i0 (.int .u8 0) 1 1 Tryd.underlying56 hi hz0 hz1 hz2 rfl (by decide) _ _ _ rfl (hrow.alloc _) ⟨wr.heap.size, 0, none⟩ 1 1 [_] rfl rfl (cells_new _ _ _) (by simp [Value.oneCell']) (by unfold maxLen; omega) (by omega) (by simp; omega) ?_; intro v' w1 hown' hgrow _; have K := Lib.hid (And.intro hown' hgrow); clear hown' hgrow hrow)
      go_roundw
      case rel =>
        obtain ⟨hown', hgrow⟩ := K.out
        exact ⟨j + 1, by omega, by go_num, own_is hown' rfl HT.out.symm, (HB.out.alloc hbs _).grown hgrow (by simp; omega) hob⟩
      case measure => simp [intOf]; omega
    · obtain rfl : j = s.size := by omega
      have hob := own_block hrow
      have HB := Lib.hid hB
      have hbs := hB.size
      have e0 : (natBytes s).take s.size = natBytes s := List.take_of_length_le (by rw [HNL.out]; exact Nat.le_refl _)
      rw [e0] at hrow
      clear hB e0 hj
      go_wp2_with (at_builtin; refine wpList_append_own _ rfl _ _ 56 rfl w.heap.size 5 i0 (.int .u8 0) 1 1 Tryd.underlying56 hi hz0 hz1 hz2 rfl (by decide) _ _ _ rfl (hrow.alloc _) ⟨wr.heap.size, 0, none⟩ 1 1 [_] rfl rfl (cells_new _ _ _) (by simp [Value.oneCell']) (by unfold maxLen; omega) (by omega) (by simp; omega) ?_; intro v' w1 hown' hgrow _; have K := Lib.hid (And.intro hown' hgrow); clear hown' hgrow hrow)
      have K2 := Lib.hid (And.intro K.out.1 ((HB.out.alloc hbs _).grown K.out.2 (by simp; omega) hob))
      clear K HB hob hbs
      go_loopw [3] (fun v wr => ∃ m : Nat, m ≤ padN s.size ∧ wr.ownsRow w.heap.size 5 1 v (s.size + 1 + m) ((natBytes s).map octV ++ [octV 128] ++ List.replicate m (octV 0)) ∧ Below w.heap.size w wr) (fun v _ => s.size + 1 + padN s.size - lenV v)
      case atStart => exact ⟨0, Nat.zero_le _, own_is K2.out.1 rfl (by simp), K2.out.2⟩
      case round =>
        clear K2
        obtain ⟨m, hm, hrow, hB⟩ := hrel
        obtain ⟨ad, cap, rfl⟩ := own_len hrow
        have hP := padN_lt s.size
        have hPA := padN_at s.size
        have hob := own_block hrow
        have HB := Lib.hid hB
        have hbs := hB.size
        clear hB
        by_cases hlt : m < padN s.size
        · have hn := padN_not s.size m hlt
          clear hPA
          have d1 : decide (((s.size + 1 + m : Nat) : Int) % 64 = 56) = false := by simp; omega
          have d2 : (((s.size + 1 + m : Nat) : Int) % 64 == 56) = false := by simp; omega
          have d3 : (((s.size + 1 + m : Nat) : Int) % 64 != 56) = true := by simp; omega
          have d4 : ¬ ((s.size : Int) + 1 + m) % 64 = 56 := by omega
          generalize padN s.size = P at *
          go_wp2_with (at_builtin; refine wpList_append_own _ rfl _ _ 56 rfl w.heap.size 5 i0 (.int .u8 0) 1 1 Tryd.underlying56 hi hz0 hz1 hz2 rfl (by decide) _ _ _ rfl (hrow.alloc _) ⟨wr.heap.size, 0, none⟩ 1 1 [_] rfl rfl (cells_new _ _ _) (by simp [Value.oneCell']) (by unfold maxLen; omega) (by omega) (by simp; omega) ?_; intro v' w1 hown' hgrow _; have K := Lib.hid (And.intro hown' hgrow); clear hown' hgrow hrow)
          refine ⟨⟨m + 1, by omega, own_is K.out.1 rfl (by rw [List.replicate_succ']; simp), (HB.out.alloc hbs _).grown K.out.2 (by simp; omega) hob⟩, ?_⟩
          obtain ⟨a2, c2, e2⟩ := own_len K.out.1
          rw [e2]
          simp only [lenV]
          omega
        · obtain rfl : m = padN s.size := by omega
          have d1 : decide (((s.size + 1 + padN s.size : Nat) : Int) % 64 = 56) = true := by simp; omega
          have d2 : (((s.size + 1 + padN s.size : Nat) : Int) % 64 == 56) = true := by simp; omega
          have d3 : (((s.size + 1 + padN s.size : Nat) : Int) % 64 != 56) = false := by simp; omega
          have d4 : ((s.size : Int) + 1 + padN s.size) % 64 = 56 := by omega
          clear hPA hlt hm
          have HX := Lib.hid (show ∀ L, natBytes s ++ 128 :: (List.replicate (padN s.size) 0 ++ L) = natBytes s ++ [128] ++ List.replicate (padN s.size) 0 ++ L by intro L; simp)
          rw [HX.out] at HE
          have HM := Lib.hid (show (natBytes s).map octV ++ [octV 128] ++ List.replicate (padN s.size) (octV 0) = (natBytes s ++ [128] ++ List.replicate (padN s.size) 0).map octV by simp)
          rw [HM.out] at hrow
          have HL := Lib.hid (show (natBytes s ++ [128] ++ List.replicate (padN s.size) 0).length = s.size + 1 + padN s.size by simp [HNL.out]; omega)
          clear HX HM
          generalize padN s.size = P at *
          generalize natBytes s ++ [128] ++ List.replicate P 0 = base at *
          have HR := Lib.hid hrow
          clear hrow
          go_wp2_with fail
          go_loopw [3, 5] (fun v i wr => ∃ (j : Nat) (I : Int), j ≤ 8 ∧ I = 7 - (j : Int) ∧ i = .int .i64 I ∧ wr.ownsRow w.heap.size 5 1 v (s.size + 1 + P + j) ((base ++ (lenB s.size).take j).map octV) ∧ Below w.heap.size w wr) (fun _ i _ => (intOf i + 1).toNat)
          case atStart => exact ⟨0, 7, by omega, rfl, rfl, own_is HR.out rfl (by simp), HB.out⟩
          case round =>
            clear HR HB hob hbs d1 d2 d3 d4
            obtain ⟨j, I, hj, hI, rfl, hrow, hB⟩ := hrel
            have hob := own_block hrow
            have HB := Lib.hid hB
            have hbs := hB.size
            clear hB
            by_cases hlt : j < 8
            · rcases (show j = 0 ∨ j = 1 ∨ j = 2 ∨ j = 3 ∨ j = 4 ∨ j = 5 ∨ j = 6 ∨ j = 7 by omega) with rfl | rfl | rfl | rfl | rfl | rfl | rfl | rfl
              · obtain rfl : I = 7 := by omega
                clear hI hj hlt
                have HV := Lib.hid (show (lenB s.size).take (0 + 1) = (lenB s.size).take 0 ++ [s.size * 8 / 72057594037927936 % 256] by simp [lenB, List.range_succ])
                have w8 : IntKind.i64.wrap (8 * (s.size : Int)) = 8 * (s.size : Int) := by simp [IntKind.wrap, IntKind.bits, IntKind.signed]; omega
                go_wp2_with (at_builtin; refine wpList_append_own _ rfl _ _ 56 rfl w.heap.size 5 i0 (.int .u8 0) 1 1 Tryd.underlying56 hi hz0 hz1 hz2 rfl (by decide) _ _ _ rfl (hrow.alloc _) ⟨wr.heap.size, 0, none⟩ 1 1 [_] rfl rfl (cells_new _ _ _) (by simp [Value.oneCell']) (by unfold maxLen; omega) (by omega) (by simp; omega) ?_; intro v' w1 hown' hgrow _; have K := Lib.hid (And.intro hown' hgrow); clear hown' hgrow hrow)
                go_roundw
                case rel =>
                  refine ⟨0 + 1, 7 - 1, by omega, by omega, by go_num, own_is K.out.1 rfl ?_, (HB.out.alloc hbs _).grown K.out.2 (by simp; omega) hob⟩
                  rw [HV.out, ← List.append_assoc, List.map_append (l₁ := base ++ _)]
                  congr 1
                  simp
                  omega
                case measure => simp [intOf]
              · obtain rfl : I = 6 := by omega
                clear hI hj hlt
                have HV := Lib.hid (show (lenB s.size).take (1 + 1) = (lenB s.size).take 1 ++ [s.size * 8 / 281474976710656 % 256] by simp [lenB, List.range_succ])
                have w8 : IntKind.i64.wrap (8 * (s.size : Int)) = 8 * (s.size : Int) := by simp [IntKind.wrap, IntKind.bits, IntKind.signed]; omega
                go_wp2_with (at_builtin; refine wpList_append_own _ rfl _ _ 56 rfl w.heap.size 5 i0 (.int .u8 0) 1 1 Tryd.underlying56 hi hz0 hz1 hz2 rfl (by decide) _ _ _ rfl (hrow.alloc _) ⟨wr.heap.size, 0, none⟩ 1 1 [_] rfl rfl (cells_new _ _ _) (by simp [Value.oneCell']) (by unfold maxLen; omega) (by omega) (by simp; omega) ?_; intro v' w1 hown' hgrow _; have K := Lib.hid (And.intro hown' hgrow); clear hown' hgrow hrow)
                go_roundw
                case rel =>
                  refine ⟨1 + 1, 6 - 1, by omega, by omega, by go_num, own_is K.out.1 rfl ?_, (HB.out.alloc hbs _).grown K.out.2 (by simp; omega) hob⟩
                  rw [HV.out, ← List.append_assoc, List.map_append (l₁ := base ++ _)]
                  congr 1
                  simp
                  omega
                case measure => simp [intOf]
              · obtain rfl : I = 5 := by omega
                clear hI hj hlt
                have HV := Lib.hid (show (lenB s.size).take (2 + 1) = (lenB s.size).take 2 ++ [s.size * 8 / 1099511627776 % 256] by simp [lenB, List.range_succ])
                have w8 : IntKind.i64.wrap (8 * (s.size : Int)) = 8 * (s.size : Int) := by simp [IntKind.wrap, IntKind.bits, IntKind.signed]; omega
                go_wp2_with (at_builtin; refine wpList_append_own _ rfl _ _ 56 rfl w.heap.size 5 i0 (.int .u8 0) 1 1 Tryd.underlying56 hi hz0 hz1 hz2 rfl (by decide) _ _ _ rfl (hrow.alloc _) ⟨wr.heap.size, 0, none⟩ 1 1 [_] rfl rfl (cells_new _ _ _) (by simp [Value.oneCell']) (by unfold maxLen; omega) (by omega) (by simp; omega) ?_; intro v' w1 hown' hgrow _; have K := Lib.hid (And.intro hown' hgrow); clear hown' hgrow hrow)
                go_roundw
                case rel =>
                  refine ⟨2 + 1, 5 - 1, by omega, by omega, by go_num, own_is K.out.1 rfl ?_, (HB.out.alloc hbs _).grown K.out.2 (by simp; omega) hob⟩
                  rw [HV.out, ← List.append_assoc, List.map_append (l₁ := base ++ _)]
                  congr 1
                  simp
                  omega
                case measure => simp [intOf]
              · obtain rfl : I = 4 := by omega
                clear hI hj hlt
                have HV := Lib.hid (show (lenB s.size).take (3 + 1) = (lenB s.size).take 3 ++ [s.size * 8 / 4294967296 % 256] by simp [lenB, List.range_succ])
                have w8 : IntKind.i64.wrap (8 * (s.size : Int)) = 8 * (s.size : Int) := by simp [IntKind.wrap, IntKind.bits, IntKind.signed]; omega
                go_wp2_with (at_builtin; refine wpList_append_own _ rfl _ _ 56 rfl w.heap.size 5 i0 (.int .u8 0) 1 1 Tryd.underlying56 hi hz0 hz1 hz2 rfl (by decide) _ _ _ rfl (hrow.alloc _) ⟨wr.heap.size, 0, none⟩ 1 1 [_] rfl rfl (cells_new _ _ _) (by simp [Value.oneCell']) (by unfold maxLen; omega) (by omega) (by simp; omega) ?_; intro v' w1 hown' hgrow _; have K := Lib.hid (And.intro hown' hgrow); clear hown' hgrow hrow)
                go_roundw
                case rel =>
                  refine ⟨3 + 1, 4 - 1, by omega, by omega, by go_num, own_is K.out.1 rfl ?_, (HB.out.alloc hbs _).grown K.out.2 (by simp; omega) hob⟩
                  rw [HV.out, ← List.append_assoc, List.map_append (l₁ := base ++ _)]
                  congr 1
                  simp
                  omega
                case measure => simp [intOf]
              · obtain rfl : I = 3 := by omega
                clear hI hj hlt
                have HV := Lib.hid (show (lenB s.size).take (4 + 1) = (lenB s.size).take 4 ++ [s.size * 8 / 16777216 % 256] by simp [lenB, List.range_succ])
                have w8 : IntKind.i64.wrap (8 * (s.size : Int)) = 8 * (s.size : Int) := by simp [IntKind.wrap, IntKind.bits, IntKind.signed]; omega
                go_wp2_with (at_builtin; refine wpList_append_own _ rfl _ _ 56 rfl w.heap.size 5 i0 (.int .u8 0) 1 1 Tryd.underlying56 hi hz0 hz1 hz2 rfl (by decide) _ _ _ rfl (hrow.alloc _) ⟨wr.heap.size, 0, none⟩ 1 1 [_] rfl rfl (cells_new _ _ _) (by simp [Value.oneCell']) (by unfold maxLen; omega) (by omega) (by simp; omega) ?_; intro v' w1 hown' hgrow _; have K := Lib.hid (And.intro hown' hgrow); clear hown' hgrow hrow)
                go_roundw
                case rel =>
                  refine ⟨4 + 1, 3 - 1, by omega, by omega, by go_num, own_is K.out.1 rfl ?_, (HB.out.alloc hbs _).grown K.out.2 (by simp; omega) hob⟩
                  rw [HV.out, ← List.append_assoc, List.map_append (l₁ := base ++ _)]
                  congr 1
                  simp
                  omega
                case measure => simp [intOf]
              · obtain rfl : I = 2 := by omega
                clear hI hj hlt
                have HV := Lib.hid (show (lenB s.size).take (5 + 1) = (lenB s.size).take 5 ++ [s.size * 8 / 65536 % 256] by simp [lenB, List.range_succ])
                have w8 : IntKind.i64.wrap (8 * (s.size : Int)) = 8 * (s.size : Int) := by simp [IntKind.wrap, IntKind.bits, IntKind.signed]; omega
                go_wp2_with (at_builtin; refine wpList_append_own _ rfl _ _ 56 rfl w.heap.size 5 i0 (.int .u8 0) 1 1 Tryd.underlying56 hi hz0 hz1 hz2 rfl (by decide) _ _ _ rfl (hrow.alloc _) ⟨wr.heap.size, 0, none⟩ 1 1 [_] rfl rfl (cells_new _ _ _) (by simp [Value.oneCell']) (by unfold maxLen; omega) (by omega) (by simp; omega) ?_; intro v' w1 hown' hgrow _; have K := Lib.hid (And.intro hown' hgrow); clear hown' hgrow hrow)
                go_roundw
                case rel =>
                  refine ⟨5 + 1, 2 - 1, by omega, by omega, by go_num, own_is K.out.1 rfl ?_, (HB.out.alloc hbs _).grown K.out.2 (by simp; omega) hob⟩
                  rw [HV.out, ← List.append_assoc, List.map_append (l₁ := base ++ _)]
                  congr 1
                  simp
                  omega
                case measure => simp [intOf]
              · obtain rfl : I = 1 := by omega
                clear hI hj hlt
                have HV := Lib.hid (show (lenB s.size).take (6 + 1) = (lenB s.size).take 6 ++ [s.size * 8 / 256 % 256] by simp [lenB, List.range_succ])
                have w8 : IntKind.i64.wrap (8 * (s.size : Int)) = 8 * (s.size : Int) := by simp [IntKind.wrap, IntKind.bits, IntKind.signed]; omega
                go_wp2_with (at_builtin; refine wpList_append_own _ rfl _ _ 56 rfl w.heap.size 5 i0 (.int .u8 0) 1 1 Tryd.underlying56 hi hz0 hz1 hz2 rfl (by decide) _ _ _ rfl (hrow.alloc _) ⟨wr.heap.size, 0, none⟩ 1 1 [_] rfl rfl (cells_new _ _ _) (by simp [Value.oneCell']) (by unfold maxLen; omega) (by omega) (by simp; omega) ?_; intro v' w1 hown' hgrow _; have K := Lib.hid (And.intro hown' hgrow); clear hown' hgrow hrow)
                go_roundw
                case rel =>
                  refine ⟨6 + 1, 1 - 1, by omega, by omega, by go_num, own_is K.out.1 rfl ?_, (HB.out.alloc hbs _).grown K.out.2 (by simp; omega) hob⟩
                  rw [HV.out, ← List.append_assoc, List.map_append (l₁ := base ++ _)]
                  congr 1
                  simp
                  omega
                case measure => simp [intOf]
              · obtain rfl : I = 0 := by omega
                clear hI hj hlt
                have HV := Lib.hid (show (lenB s.size).take (7 + 1) = (lenB s.size).take 7 ++ [s.size * 8 / 1 % 256] by simp [lenB, List.range_succ])
                have w8 : IntKind.i64.wrap (8 * (s.size : Int)) = 8 * (s.size : Int) := by simp [IntKind.wrap, IntKind.bits, IntKind.signed]; omega
                go_wp2_with (at_builtin; refine wpList_append_own _ rfl _ _ 56 rfl w.heap.size 5 i0 (.int .u8 0) 1 1 Tryd.underlying56 hi hz0 hz1 hz2 rfl (by decide) _ _ _ rfl (hrow.alloc _) ⟨wr.heap.size, 0, none⟩ 1 1 [_] rfl rfl (cells_new _ _ _) (by simp [Value.oneCell']) (by unfold maxLen; omega) (by omega) (by simp; omega) ?_; intro v' w1 hown' hgrow _; have K := Lib.hid (And.intro hown' hgrow); clear hown' hgrow hrow)
                go_roundw
                case rel =>
                  refine ⟨7 + 1, 0 - 1, by omega, by omega, by go_num, own_is K.out.1 rfl ?_, (HB.out.alloc hbs _).grown K.out.2 (by simp; omega) hob⟩
                  rw [HV.out, ← List.append_assoc, List.map_append (l₁ := base ++ _)]
                  congr 1
                  simp
                  omega
                case measure => simp [intOf]
            · obtain rfl : j = 8 := by omega
              obtain rfl : I = -1 := by omega
              have hfin := own_is hrow (m := (extL (natBytes s)).length) (ys := (extL (natBytes s)).map octV) (by rw [HE.out, List.length_append, HL.out]; simp [lenB]) (by rw [HE.out, List.take_of_length_le (by simp [lenB])])
              have HF := Lib.hid hfin
              clear hfin hrow
              go_wp2
              go_ret
              exact ⟨_, rfl, HB.out, HF.out⟩
end Go.Proofs.YtnhlhoijajhcjaaDoor
