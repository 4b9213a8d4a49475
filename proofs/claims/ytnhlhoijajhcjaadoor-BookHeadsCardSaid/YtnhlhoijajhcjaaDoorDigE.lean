/- SHA-256: the function that hands out the blocks of a string. -/
import Derived.Test.YtnhlhoijajhcjaaDoorDigD
import Derived.Test.YtnhlhoijajhcjaaDoorIterY
import Derived.Test.YtnhlhoijajhcjaaDoorRound
import Derived.RangeFuncBox
import Derived.Lib.BufferWrite
import Derived.Stop.RegionWithIn
import Derived.Sort.CutIn
set_option linter.unusedVariables false
set_option linter.unusedSimpArgs false
set_option linter.unnecessarySimpa false
namespace Go.Proofs.YtnhlhoijajhcjaaDoor
open Go.RowKit Go.Shelf
attribute [local go_sem] Oper.semAt_some

/-- 'copy(dst, s)': as many of s's bytes as dst takes. -/
theorem run_copy_str {P : Program} (w : World) (dT sT ty elem : TypeId) (g o dLen dCap m : Nat) (s : ByteArray) (cur : List Value) (t : TypeId)
    (hu : P.underlying dT = some (.slice elem)) (hs : (P.info? elem).map (·.size) = some 1) (hg : Row w g t cur) (hm : min s.size dLen = m) (hfit : o + m ≤ cur.length) :
    (Builtin.copy_ #[dT, sT] ty #[.slice (some ⟨g, o, none⟩) dLen dCap, .string s]).run P w =
      .ok (.int .i64 m) (w.setRow g (cur.take o ++ ((natBytes s).take m).map octV ++ cur.drop (o + m)).toArray) := by
  have hms : m ≤ s.size := by omega
  have hm' : Nat.min s.size dLen = m := hm
  have hlen : (((natBytes s).take m).map octV).length = m := by
    simp [natBytes]
    omega
  have hst := run_storeCells_at P g o t (((natBytes s).take m).map octV) 0 cur.toArray w hg (by rw [hlen]; simpa using hfit) (by intro v hv; obtain ⟨x, _, rfl⟩ := List.mem_map.1 hv; rfl)
  have htk : List.take m (List.map (fun b : UInt8 => Value.int IntKind.u8 (b.toNat : Int)) s.data.toList) = ((natBytes s).take m).map octV := by
    rw [← List.map_take]
    simp only [natBytes, ← List.map_take, List.map_map]
    rfl
  rw [hlen] at hst
  simp only [Nat.add_zero] at hst
  cases hq : P.info? elem with
  | none => simp [hq] at hs
  | some i =>
    simp [Builtin.copy_, run_underlying hu, Builtin.lenOf, Builtin.firstCells, sizeOf, typeInfo, hq, hm']
    rw [htk, hst]
    simp [Result.andThen]
    rfl
theorem infoBlock : (Tryd.prog.info? 120).map (·.size) = some 64 := by kernel_rfl
theorem infoB1 : (Tryd.prog.info? 5).map (·.size) = some 1 := by kernel_rfl
theorem load_block {w : World} {b : Nat} {C : List Nat} (h : Row w b 120 (C.map octV)) (hl : C.length = 64) : (Instr.loadAt 120 (.pointer (some ⟨b, 0, none⟩))).run Tryd.prog w = .ok (.agg (C.map octV).toArray) w := by
  simp only [Instr.loadAt, Instr.sureAddr, Sem.run_bind, Sem.run_pure, Result.andThen_ok]
  exact run_loadVar_row w b 120 120 (C.map octV).toArray (0, 0) _ h Tryd.underlying120 rfl (by rw [infoBlock]; simp [hl])
theorem load_cells {w : World} {b : Nat} {C : List Nat} (h : Row w b 120 (C.map octV)) (hl : C.length = 64) : (loadCellsFrom ⟨b, 0, none⟩ 0 64 #[]).run Tryd.prog w = .ok (C.map octV).toArray w := by
  have := run_loadCells_list (P := Tryd.prog) w ⟨b, 0, none⟩ (C.map octV) (fun j v hv => by
    have hadd : (⟨b, 0, none⟩ : Addr).add j = ⟨b, j, none⟩ := by unfold Addr.add; split <;> simp_all
    rw [hadd, h.cell]
    exact hv)
  simpa [loadCells, hl] using this
theorem store_cells {w : World} {b : Nat} {C : List Value} {D : List Value} (h : Row w b 120 C) (hl : C.length = 64) (hd : D.length = 64) (h1 : ∀ v ∈ D, v.oneCell' = true) : (storeCells ⟨b, 0, none⟩ D 0).run Tryd.prog w = .ok () (w.setRow b D.toArray) := by
  have hst := run_storeCells_at Tryd.prog b 0 _ D 0 C.toArray w h (by simp; omega) h1
  have e : (C.take (0 + 0) ++ D ++ C.drop (0 + 0 + D.length)) = D := by
    have e0 : C.drop (0 + 0 + D.length) = [] := List.drop_of_length_le (by omega)
    rw [e0, Nat.add_zero, List.take_zero, List.nil_append, List.append_nil]
  rw [hst]
  simp only [e]
theorem store_block {w : World} {b : Nat} {C : List Value} {D : List Value} (h : Row w b 120 C) (hl : C.length = 64) (hd : D.length = 64) (h1 : ∀ v ∈ D, v.oneCell' = true) : (Instr.storeAt 120 (.pointer (some ⟨b, 0, none⟩)) (.agg D.toArray)).run Tryd.prog w = .ok () (w.setRow b D.toArray) := by
  simp only [Instr.storeAt, Instr.sureAddr, Sem.run_bind, Sem.run_pure, Result.andThen_ok]
  exact run_storeVar_row w b 120 120 C.toArray D.toArray h (by rw [infoBlock]; simp [hd]) (by simp [hl, hd]) (by rw [Array.all_eq_true_iff_forall_mem]; intro v hv; exact h1 v (by simpa using hv))
theorem natBytes_length (s : ByteArray) : (natBytes s).length = s.size := by simp [natBytes]
theorem natBytes_lt (s : ByteArray) : ∀ x ∈ natBytes s, x < 256 := by
  intro x hx
  obtain ⟨b, _, rfl⟩ := List.mem_map.1 hx
  exact b.toNat_lt
theorem natBytes_drop (s : ByteArray) (k : Nat) : natBytes (s.extract k s.size) = (natBytes s).drop k := by
  unfold natBytes
  rw [← List.map_drop]
  congr 1
  simp
  exact List.take_of_length_le (by simp)


/-! ### the blocks of a string as mathematics -/
def fulls (l : List Nat) (k : Nat) : List (List Nat) := (List.range k).map fun i => (l.drop (64 * i)).take 64
theorem blocksFrom_fulls (f : Nat) : ∀ (l : List Nat) (total : Nat), l.length / 64 = f → Sha.blocksFrom f l total = fulls l f ++ Sha.last (l.drop (64 * f)) total := by
  induction f with
  | zero => intro l total _; simp [Sha.blocksFrom, fulls]
  | succ f ih =>
    intro l total h
    have h64 : ¬ l.length < 64 := by omega
    rw [Sha.blocksFrom, if_neg h64, ih (l.drop 64) total (by rw [List.length_drop]; omega), List.drop_drop]
    unfold fulls
    rw [List.range_succ_eq_map, List.map_cons, List.map_map, List.cons_append, Nat.mul_zero, List.drop_zero]
    congr 2
    · refine List.map_congr_left fun i _ => ?_
      simp only [Function.comp_apply, List.drop_drop]
      rw [show 64 + 64 * i = 64 * i.succ by omega]
    · rw [show 64 + 64 * f = 64 * (f + 1) by omega]
theorem blocks_fulls (l : List Nat) : Sha.blocks l = fulls l (l.length / 64) ++ Sha.last (l.drop (64 * (l.length / 64))) l.length := blocksFrom_fulls _ l l.length rfl
theorem fulls_more (l : List Nat) (k : Nat) : fulls l (k + 1) = fulls l k ++ [(l.drop (64 * k)).take 64] := by simp [fulls, List.range_succ]
theorem fulls_pre (l : List Nat) (k : Nat) (h : k ≤ l.length / 64) : fulls l k <+: Sha.blocks l := by
  rw [blocks_fulls]
  refine List.IsPrefix.trans ?_ (List.prefix_append _ _)
  have : fulls l k = (fulls l (l.length / 64)).take k := by
    unfold fulls
    rw [← List.map_take, List.take_range, Nat.min_eq_left h]
  rw [this]
  exact List.take_prefix _ _

/-- the bytes of two words that were just laid -/
theorem octets_two (x y b : Nat) (t : TypeId) (w : World) (hR : Row w b t [.int .u32 x, .int .u32 y]) (hx : x < 2 ^ 32) (hy : y < 2 ^ 32) :
    Calls Tryd.prog 80 #[.slice (some ⟨b, 0, none⟩) 2 2] w fun e w' => ∃ g cap, e = .returned (.slice (some ⟨g, 0, none⟩) 8 cap) ∧ Below w.heap.size w w' ∧ w.heap.size ≤ g ∧
      ∀ j u, ((Sha.octets [x, y]).map octV)[j]? = some u → w'.cell? ((⟨g, 0, none⟩ : Addr).add j) = some u := by
  refine (octets_any b 2 t [x, y] w hR (by simp) (by simp; omega)).mono ?_
  rintro e w' ⟨v, rfl, hb, how⟩
  have hl : (Sha.octets [x, y]).length = 8 := by rw [octets_length]; rfl
  rw [hl] at how
  rcases how.2 with ⟨_, h0⟩ | ⟨g, cap, cur, rfl, hg, _⟩
  · cases h0
  · exact ⟨g, cap, rfl, hb, hg, how.cells rfl⟩

theorem copy_tail {w : World} {b g cap : Nat} {pre L : List Nat} (hR : Row w b 120 ((pre ++ List.replicate 8 0).map octV)) (hp : pre.length = 56) (hl : L.length = 8)
    (hc : ∀ j u, (L.map octV)[j]? = some u → w.cell? ((⟨g, 0, none⟩ : Addr).add j) = some u) :
    (Builtin.copy_ #[56, 56] 3 #[.slice (some ⟨b, 56, none⟩) 8 8, .slice (some ⟨g, 0, none⟩) 8 cap]).run Tryd.prog w = .ok (.int .i64 8) (w.setRow b ((pre ++ L).map octV).toArray) := by
  have h := run_copy_row (P := Tryd.prog) w 56 56 3 5 b 56 8 8 ⟨g, 0, none⟩ 8 cap _ _ (L.map octV) Tryd.underlying56 infoB1 hR (by rw [List.length_map, hl]; rfl) hc (by simp [hp, hl]) (by
    intro v hv
    obtain ⟨x, _, rfl⟩ := List.mem_map.1 hv
    rfl)
  rw [h]
  have e : ((pre ++ List.replicate 8 0).map octV).take 56 ++ L.map octV ++ ((pre ++ List.replicate 8 0).map octV).drop (56 + (L.map octV).length) = (pre ++ L).map octV := by
    have e0 : ((pre ++ List.replicate 8 0).map octV).drop (56 + (L.map octV).length) = [] := List.drop_of_length_le (by simp [hp, hl])
    rw [e0, List.append_nil, List.map_append, List.map_append, List.take_append_of_le_length (by simp [hp]), List.take_of_length_le (by simp [hp])]
  rw [List.toList_toArray, e]
  simp [hl, goInt]

set_option maxRecDepth 100000 in
set_option maxHeartbeats 2000000 in
theorem blocks_seq (n : Nat) (hn : 1 ≤ n) (B S : Nat) (s : ByteArray) (hs : s.size ≤ 2 ^ 40) :
    SeqCellY Fence.wide n Tryd.prog 84 #[.pointer (some ⟨S, 0, none⟩)] (fun x : List Nat => #[.agg (x.map octV).toArray]) (Sha.blocks (natBytes s)) B (fun W => W.heap.size = B) (fun A => A.cell? ⟨S, 0, none⟩ = some (.string s) ∧ S < B) := by
  intro l J Jx W hZ hJY hJ hJx hY h0
  have HJY := Lib.hid hJY
  have HJ := Lib.hid hJ
  have HY := Lib.hid hY
  refine callsIn_of_wp Tryd.func84 rfl trivial ?_ rfl
  simp only [Tryd.ntmps84, List.size_toArray, List.length_cons, List.length_nil, Nat.reduceAdd, Nat.reduceSub, Array.replicate_succ, Array.replicate_zero, List.push_toArray, List.append_toArray, List.nil_append, List.cons_append]
  obtain ⟨hc0, hSB⟩ := hJY _ _ h0
  have HSB := Lib.hid hSB
  have HZ := Lib.hid hZ
  have hSW : S < W.heap.size := by rw [hZ]; exact hSB
  clear hJY hJ hY hZ
  gi_wp2
  have K0 : J [] (W.alloc (.cells (List.replicate 64 (Value.int .u8 0)).toArray 120)) ∧ Row (W.alloc (.cells (List.replicate 64 (Value.int .u8 0)).toArray 120)) B 120 (List.replicate 64 (Value.int .u8 0)) := by
    rw [← HZ.out]
    exact ⟨HJ.out _ _ _ h0 (World.grownBy_alloc _ _ _) (KeepsOthers.alloc _ _), Row.new _ _ _⟩
  rw [HZ.out]
  have HK := Lib.hid K0
  clear K0 h0 hc0
  gi_loopw [4] (fun v wr => ∃ k : Nat, 64 * k ≤ s.size ∧ v = .string (s.extract (64 * k) s.size) ∧ J (fulls (natBytes s) k) wr ∧ ∃ C : List Value, C.length = 64 ∧ Row wr B 120 C)
    (fun v _ => match v with | .string t => t.size | _ => 0)
  case atStart => exact ⟨0, by omega, by simp, HK.out.1, _, by simp, HK.out.2⟩
  case round =>
    obtain ⟨k, hk, rfl, hJs, C, hC, hR⟩ := hrel
    clear HK
    have hsz : (s.extract (64 * k) s.size).size = s.size - 64 * k := by simp
    have hnb := natBytes_drop s (64 * k)
    have hx : (s.extract (64 * k) s.size).extract 64 (s.extract (64 * k) s.size).size = s.extract (64 * (k + 1)) s.size := by
      apply ByteArray.ext
      simp
      congr 1
      omega
    generalize s.extract (64 * k) s.size = r at *
    have HX := Lib.hid hx
    have hsz' : r.size ≤ s.size := by omega
    have HSZ := Lib.hid hsz
    clear hsz
    have HNB := Lib.hid hnb
    clear hx hnb
    by_cases hlt : 64 * (k + 1) ≤ s.size
    · have hr64 : 64 ≤ r.size := by have := HSZ.out; omega
      have hge : decide ((64 : Int) ≤ r.size) = true := by simp; omega
      have E1 := run_copy_str (P := Tryd.prog) wr 56 9 3 5 B 0 64 64 64 r C 120 Tryd.underlying56 infoB1 hR (by omega) (by omega)
      have e : C.take 0 ++ ((natBytes r).take 64).map octV ++ C.drop (0 + 64) = (((natBytes s).drop (64 * k)).take 64).map octV := by
        have e0 : C.drop (0 + 64) = [] := List.drop_of_length_le (by omega)
        rw [HNB.out, List.take_zero, List.nil_append, e0, List.append_nil]
      rw [e] at E1
      clear e
      have hlD : (((natBytes s).drop (64 * k)).take 64).length = 64 := by rw [List.length_take, List.length_drop, natBytes_length]; omega
      have hp : fulls (natBytes s) k ++ [((natBytes s).drop (64 * k)).take 64] <+: Sha.blocks (natBytes s) := by
        rw [← fulls_more]
        exact fulls_pre _ _ (by rw [natBytes_length]; omega)
      have HM := Lib.hid (fulls_more (natBytes s) k)
      generalize ((natBytes s).drop (64 * k)).take 64 = D at *
      have R1 := hR.setRow (D.map octV)
      have J1 := HJ.out _ _ _ hJs (setRow_grown wr B (D.map octV).toArray) (grown_keeps hR (setRow_grown wr B _))
      have SZ := Lib.hid (show (Tryd.prog.info? 120).map (·.size) = some (D.map octV).toArray.size by rw [infoBlock]; simp [hlD])
      obtain ⟨fn, tmps, assign, body, hyy, hRd⟩ := HY.out (fulls (natBytes s) k) D _ J1 hp R1.lt
      have RR := Lib.hid R1
      have HP := Lib.hid hp
      clear hJs hR R1 J1 hp
      gi_wp2_with (refine wpListIn_load_row rfl _ _ rfl B rfl _ _ _ _ RR.out Tryd.underlying120 rfl SZ.out ?_)
      refine hRd.mono ?_
      rintro e W3 (⟨rfl, hJ3, hk3⟩ | ⟨rfl, hJx3⟩)
      · have R3 := Lib.hid (show Row W3 B 120 (D.map octV) from hk3.trans RR.out)
        have J3 := Lib.hid hJ3
        clear hk3 hJ3
        gi_wp2
        go_roundw
        case rel => exact ⟨k + 1, hlt, by rw [HX.out], by rw [HM.out]; exact J3.out, D.map octV, by simp [hlD], R3.out⟩
        case measure => simp; omega
      · gi_wp2
        refine bodyPost_ret (results_none rfl _ _ _) rfl ?_
        exact ⟨⟨_, rfl⟩, .inr ⟨_, HP.out, hJx3⟩⟩
    · have hr64 : r.size < 64 := by have := HSZ.out; omega
      have hri : (r.size : Int) < 64 := by omega
      have hge : decide ((64 : Int) ≤ r.size) = false := by simp; omega
      have hlb : (natBytes r).length = r.size := natBytes_length r
      obtain ⟨Z0, hZ0⟩ : ∃ Z0, Z0 = List.replicate 64 (Value.int .u8 0) := ⟨_, rfl⟩
      have RR := Lib.hid hR
      have LC := Lib.hid (show C.toArray.size = Z0.toArray.size by simp [hC, hZ0])
      have O0 := Lib.hid (show Z0.toArray.all (·.oneCell') = true by simp [Value.oneCell', hZ0])
      have SZ := Lib.hid (show (Tryd.prog.info? 120).map (·.size) = some Z0.toArray.size by rw [infoBlock, hZ0]; simp)
      have R1 := hR.setRow Z0
      have E1 := run_copy_str (P := Tryd.prog) _ 56 9 3 5 B 0 64 64 r.size r _ 120 Tryd.underlying56 infoB1 R1 (by omega) (by simp [hZ0]; omega)
      have e : Z0.take 0 ++ ((natBytes r).take r.size).map octV ++ Z0.drop (0 + r.size) = (natBytes r ++ List.replicate (64 - r.size) 0).map octV := by
        rw [hZ0, List.take_zero, List.nil_append, List.take_of_length_le (by omega), List.drop_replicate, List.map_append, List.map_replicate, Nat.zero_add]
        rfl
      rw [e] at E1
      clear e
      have e2 : ((natBytes r ++ List.replicate (64 - r.size) 0).map octV).set r.size (octV 128) = (natBytes r ++ 128 :: List.replicate (63 - r.size) 0).map octV := by
        obtain ⟨q, hq⟩ : ∃ q, 64 - r.size = q + 1 := ⟨63 - r.size, by omega⟩
        have hq' : 63 - r.size = q := by omega
        rw [hq, hq', List.replicate_succ, List.map_append, List.set_append_right _ _ (by simp [hlb])]
        simp [hlb]
      have hlX : ((natBytes r ++ List.replicate (64 - r.size) 0).map octV).length = 64 := by simp [hlb]; omega
      generalize (natBytes r ++ List.replicate (64 - r.size) 0).map octV = X at *
      have R2 := R1.setRow X
      have hc2 := R2.cell r.size
      have hf2 := R2.frozen r.size
      obtain ⟨old, ho⟩ : ∃ old, X[r.size]? = some old := ⟨_, List.getElem?_eq_getElem (by omega)⟩
      rw [ho] at hc2
      have R3 : Row (((wr.setRow B Z0.toArray).setRow B X.toArray).setCell ⟨B, r.size, none⟩ (.int .u8 128)) B 120 ((natBytes r ++ 128 :: List.replicate (63 - r.size) 0).map octV) := by
        rw [← e2]
        exact R2.set r.size (octV 128)
      have J3 : J (fulls (natBytes s) k) (((wr.setRow B Z0.toArray).setRow B X.toArray).setCell ⟨B, r.size, none⟩ (.int .u8 128)) :=
        HJ.out _ _ _ (HJ.out _ _ _ (HJ.out _ _ _ hJs (setRow_grown wr B _) (grown_keeps hR (setRow_grown wr B _))) (setRow_grown _ B _) (grown_keeps R1 (setRow_grown _ B _))) (Go.Lib.grownBy_setCell _ B r.size _) (KeepsOthers.setCell _ _ _)
      have HZ0 := Lib.hid hZ0
      have KK := Lib.hid (And.intro R3 J3)
      clear hR R1 R2 R3 J3 hJs ho hZ0 e2 hlX hC
      gi_upto_region 8 with (refine wpListIn_store_row rfl _ _ _ rfl B Z0.toArray rfl (by rw [HZ0.out]; rfl) _ _ RR.out SZ.out LC.out O0.out ?_)
      refine wpIn_named fun W8 hw => ?_
      have K8 : Row W8 B 120 ((natBytes r ++ 128 :: List.replicate (63 - r.size) 0).map octV) ∧ J (fulls (natBytes s) k) W8 := by rw [hw]; exact KK.out
      clear hw E1 hc2 hf2 RR KK LC
      have hkq : (natBytes s).length / 64 = k := by rw [natBytes_length]; omega
      have HBL : Sha.blocks (natBytes s) = fulls (natBytes s) k ++ Sha.last (natBytes r) s.size := by
        rw [blocks_fulls, hkq, HNB.out, natBytes_length]
      have hl56 : (natBytes r).length < 56 ↔ r.size < 56 := by rw [hlb]
      unfold Sha.last at HBL
      obtain ⟨LB, hLB⟩ : ∃ LB, LB = Sha.octets [s.size * 8 / 4294967296 % 4294967296, s.size * 8 % 4294967296] := ⟨_, rfl⟩
      rw [← hLB] at HBL
      have HLB := Lib.hid hLB
      clear hLB hkq
      by_cases h56 : r.size < 56
      · have hge2 : decide ((56 : Int) ≤ r.size) = false := by simp; omega
        rw [if_pos (hl56.2 h56)] at HBL
        obtain ⟨H, hH⟩ : ∃ H, H = fulls (natBytes s) k := ⟨_, rfl⟩
        obtain ⟨pre, hpre⟩ : ∃ pre, pre = natBytes r ++ 128 :: List.replicate (55 - r.size) 0 := ⟨_, rfl⟩
        have hpl : pre.length = 56 := by rw [hpre]; simp [hlb]; omega
        have KF : Row W8 B 120 ((pre ++ List.replicate 8 0).map octV) ∧ J H W8 ∧ Sha.blocks (natBytes s) = H ++ [pre ++ LB] := by
          refine ⟨?_, by rw [hH]; exact K8.2, ?_⟩
          · rw [hpre, List.append_assoc, List.cons_append, List.replicate_append_replicate, show 55 - r.size + 8 = 63 - r.size by omega]
            exact K8.1
          · rw [HBL, hH, hpre, hlb]
            try simp
        have KK := Lib.hid KF
        clear K8 hH hpre KF HBL hl56 HNB HX
        gi_upto_region 11 with (fail)
        rename World => W11
        have hcS := (HJY.out _ _ KK.out.2.1).1
        have hll : LB.length = 8 := by rw [HLB.out, octets_length]; rfl
        have CO := Lib.hid (fun b t W hR => octets_two (s.size * 8 / 4294967296 % 4294967296) (s.size * 8 % 4294967296) b t W hR (Nat.mod_lt _ (by decide)) (Nat.mod_lt _ (by decide)))
        rw [← HLB.out] at CO
        have EX := Lib.hid (show IntKind.u32.wrap (8 * (s.size : Int) / 4294967296) = ((s.size * 8 / 4294967296 % 4294967296 : Nat) : Int) by simp [IntKind.wrap, IntKind.bits, IntKind.signed]; omega)
        have EY := Lib.hid (show IntKind.u32.wrap (8 * (s.size : Int)) = ((s.size * 8 % 4294967296 : Nat) : Int) by simp [IntKind.wrap, IntKind.bits, IntKind.signed]; omega)
        have HL := Lib.hid hll
        have HPL := Lib.hid hpl
        clear hll hpl
        gi_upto_region 12 with (fail)
        clear hcS
        gi_region_with (refine ⟨trivial, ?_⟩; gi_at_call 80; rw [EX.out, EY.out]; with_reducible refine (callsIn_wide.2 (CO.out _ _ _ (Row.new _ _ _).drew)).mono ?_; rintro e w' ⟨g, cap, rfl, hb, hg, hc⟩; have hbW := Below.andThen (((Below.refl _ W11).alloc (Nat.le_refl _) _).drew) hb; have E1 := copy_tail (cap := cap) (KK.out.1.next hbW) HPL.out HL.out hc; have HR' := Lib.hid (KK.out.1.next hbW); have HJ' := Lib.hid (HJ.out _ _ _ KK.out.2.1 (below_grown hbW _) (below_keeps hbW)); clear hb hg hc hbW)
        have R13 := HR'.out.setRow ((pre ++ LB).map octV)
        have J13 := HJ.out _ _ _ HJ'.out (setRow_grown _ B ((pre ++ LB).map octV).toArray) (grown_keeps HR'.out (setRow_grown _ B _))
        have SE := Lib.hid (show (Tryd.prog.info? 120).map (·.size) = some (List.map octV pre ++ List.map octV LB).toArray.size by rw [infoBlock]; simp [HPL.out, HL.out])
        obtain ⟨fn, tmps, assign, body, hyy, hRd⟩ := HY.out H (pre ++ LB) _ J13 (by rw [KK.out.2.2]; exact List.prefix_rfl) R13.lt
        simp only [List.map_append] at hyy hRd R13
        have RT := Lib.hid R13
        clear R13 J13 HR' HJ' CO EX EY
        gi_wp2_with (refine wpListIn_load_row rfl _ _ rfl B rfl _ _ _ _ RT.out Tryd.underlying120 rfl SE.out ?_)
        refine hRd.mono ?_
        rintro e W4 (⟨rfl, hJ4, -⟩ | ⟨rfl, hJx4⟩)
        · have HF := Lib.hid hJ4
          clear hJ4
          gi_wp2
          go_end0
          exact ⟨⟨_, rfl⟩, .inl (by rw [KK.out.2.2]; exact HF.out)⟩
        · have HF := Lib.hid hJx4
          clear hJx4
          gi_wp2
          go_end0
          exact ⟨⟨_, rfl⟩, .inr ⟨_, by rw [KK.out.2.2]; exact List.prefix_rfl, HF.out⟩⟩
      · have hge2 : decide ((56 : Int) ≤ r.size) = true := by simp; omega
        rw [if_neg (fun h => h56 (hl56.1 h))] at HBL
        obtain ⟨H0, hH⟩ : ∃ H, H = fulls (natBytes s) k := ⟨_, rfl⟩
        rw [← hH] at HBL K8
        have hD1 : (natBytes r ++ 128 :: List.replicate (63 - (natBytes r).length) 0) = natBytes r ++ 128 :: List.replicate (63 - r.size) 0 := by rw [hlb]
        rw [hD1] at HBL
        have hlD : (natBytes r ++ 128 :: List.replicate (63 - r.size) 0).length = 64 := by simp [hlb]; omega
        generalize natBytes r ++ 128 :: List.replicate (63 - r.size) 0 = D at *
        have hp : H0 ++ [D] <+: Sha.blocks (natBytes s) := by rw [HBL]; exact ⟨[List.replicate 56 0 ++ LB], by simp⟩
        obtain ⟨fn, tmps, assign, body, hyy, hRd⟩ := HY.out H0 D _ K8.2 hp K8.1.lt
        have RR := Lib.hid K8.1
        have HP := Lib.hid hp
        have HBLH := Lib.hid HBL
        have SD := Lib.hid (show (Tryd.prog.info? 120).map (·.size) = some (D.map octV).toArray.size by rw [infoBlock]; simp [hlD])
        have LC := Lib.hid (show (D.map octV).toArray.size = Z0.toArray.size by simp [hlD, HZ0.out])
        clear K8 hH HBL hl56 HNB HX hD1 hp hlD
        gi_wp2_with (refine wpListIn_load_row rfl _ _ rfl B rfl _ _ _ _ RR.out Tryd.underlying120 rfl SD.out ?_)
        refine hRd.mono ?_
        rintro e W3 (⟨rfl, hJ3, hk3⟩ | ⟨rfl, hJx3⟩)
        rotate_left
        · gi_wp2
          refine bodyPost_ret (results_none rfl _ _ _) rfl ?_
          exact ⟨⟨_, rfl⟩, .inr ⟨_, HP.out, hJx3⟩⟩
        have R3 := Lib.hid (show Row W3 B 120 (D.map octV) from hk3.trans RR.out)
        have J3 := Lib.hid hJ3
        clear hk3 hJ3 hyy hRd RR
        obtain ⟨H, hH⟩ : ∃ H, H = H0 ++ [D] := ⟨_, rfl⟩
        obtain ⟨pre, hpre⟩ : ∃ pre, pre = List.replicate 56 0 := ⟨_, rfl⟩
        have hpl : pre.length = 56 := by rw [hpre]; simp
        have KF : Row (W3.setRow B Z0.toArray) B 120 ((pre ++ List.replicate 8 0).map octV) ∧ J H (W3.setRow B Z0.toArray) ∧ Sha.blocks (natBytes s) = H ++ [pre ++ LB] := by
          refine ⟨?_, ?_, ?_⟩
          · have := R3.out.setRow Z0
            rw [hpre, List.replicate_append_replicate, List.map_replicate]
            rw [HZ0.out] at this ⊢
            exact this
          · rw [hH]
            exact HJ.out _ _ _ J3.out (setRow_grown _ B _) (grown_keeps R3.out (setRow_grown _ B _))
          · rw [HBLH.out, hH, hpre, List.append_assoc]
            rfl
        have KK := Lib.hid KF
        clear KF hH hpre HBLH
        gi_upto_region 11 with (refine wpListIn_store_row rfl _ _ _ rfl B Z0.toArray rfl (by rw [HZ0.out]; rfl) _ _ R3.out SZ.out LC.out O0.out ?_)
        refine wpIn_named fun W11 hw => ?_
        rw [← hw] at KK
        clear hw R3 J3 LC SD HP
        have hcS := (HJY.out _ _ KK.out.2.1).1
        have hll : LB.length = 8 := by rw [HLB.out, octets_length]; rfl
        have CO := Lib.hid (fun b t W hR => octets_two (s.size * 8 / 4294967296 % 4294967296) (s.size * 8 % 4294967296) b t W hR (Nat.mod_lt _ (by decide)) (Nat.mod_lt _ (by decide)))
        rw [← HLB.out] at CO
        have EX := Lib.hid (show IntKind.u32.wrap (8 * (s.size : Int) / 4294967296) = ((s.size * 8 / 4294967296 % 4294967296 : Nat) : Int) by simp [IntKind.wrap, IntKind.bits, IntKind.signed]; omega)
        have EY := Lib.hid (show IntKind.u32.wrap (8 * (s.size : Int)) = ((s.size * 8 % 4294967296 : Nat) : Int) by simp [IntKind.wrap, IntKind.bits, IntKind.signed]; omega)
        have HL := Lib.hid hll
        have HPL := Lib.hid hpl
        clear hll hpl
        gi_upto_region 12 with (fail)
        clear hcS
        gi_region_with (refine ⟨trivial, ?_⟩; gi_at_call 80; rw [EX.out, EY.out]; with_reducible refine (callsIn_wide.2 (CO.out _ _ _ (Row.new _ _ _).drew)).mono ?_; rintro e w' ⟨g, cap, rfl, hb, hg, hc⟩; have hbW := Below.andThen (((Below.refl _ W11).alloc (Nat.le_refl _) _).drew) hb; have E1 := copy_tail (cap := cap) (KK.out.1.next hbW) HPL.out HL.out hc; have HR' := Lib.hid (KK.out.1.next hbW); have HJ' := Lib.hid (HJ.out _ _ _ KK.out.2.1 (below_grown hbW _) (below_keeps hbW)); clear hb hg hc hbW)
        have R13 := HR'.out.setRow ((pre ++ LB).map octV)
        have J13 := HJ.out _ _ _ HJ'.out (setRow_grown _ B ((pre ++ LB).map octV).toArray) (grown_keeps HR'.out (setRow_grown _ B _))
        have SE := Lib.hid (show (Tryd.prog.info? 120).map (·.size) = some (List.map octV pre ++ List.map octV LB).toArray.size by rw [infoBlock]; simp [HPL.out, HL.out])
        obtain ⟨fn, tmps, assign, body, hyy, hRd⟩ := HY.out H (pre ++ LB) _ J13 (by rw [KK.out.2.2]; exact List.prefix_rfl) R13.lt
        simp only [List.map_append] at hyy hRd R13
        have RT := Lib.hid R13
        clear R13 J13 HR' HJ' CO EX EY
        gi_wp2_with (refine wpListIn_load_row rfl _ _ rfl B rfl _ _ _ _ RT.out Tryd.underlying120 rfl SE.out ?_)
        refine hRd.mono ?_
        rintro e W4 (⟨rfl, hJ4, -⟩ | ⟨rfl, hJx4⟩)
        · have HF := Lib.hid hJ4
          clear hJ4
          gi_wp2
          go_end0
          exact ⟨⟨_, rfl⟩, .inl (by rw [KK.out.2.2]; exact HF.out)⟩
        · have HF := Lib.hid hJx4
          clear hJx4
          gi_wp2
          go_end0
          exact ⟨⟨_, rfl⟩, .inr ⟨_, by rw [KK.out.2.2]; exact List.prefix_rfl, HF.out⟩⟩
end Go.Proofs.YtnhlhoijajhcjaaDoor
