/- The reference's sum, leaves, nodes and chains; where it splits a tree. -/
import Derived.Test.YtojfblkmhdgjeaaDoorDigRB
import Derived.Test.YtojfblkmhdgjeaaDoorDigW
namespace Go.Proofs.YtojfblkmhdgjeaaDoor
open Go.RowKit Go.Shelf

theorem flat_at : ∀ (bs : List (List Nat)) (_ : ∀ b ∈ bs, b.length = 64) (k q : Nat) (x : List Nat) (y : Nat), bs[k]? = some x → x[q]? = some y → bs.flatten[64 * k + q]? = some y := by
  intro bs
  induction bs with
  | nil => intro _ k q x y h; simp at h
  | cons b bs ih =>
    intro hb k q x y hx hy
    have h0 := hb b List.mem_cons_self
    rw [List.flatten_cons]
    cases k with
    | zero =>
      rw [List.getElem?_cons_zero] at hx
      cases hx
      have hq : q < b.length := (List.getElem?_eq_some_iff.1 hy).1
      rw [Nat.mul_zero, Nat.zero_add, List.getElem?_append_left hq]
      exact hy
    | succ k =>
      rw [List.getElem?_cons_succ] at hx
      rw [List.getElem?_append_right (by omega), show 64 * (k + 1) + q - b.length = 64 * k + q by omega]
      exact ih (fun x h => hb x (List.mem_cons_of_mem _ h)) k q x y hx hy
theorem octet_snoc (ws : List Nat) (j x : Nat) (h : ws[j]? = some x) (hx : x < 2 ^ 32) : (Sha.octets (ws.take (j + 1))).map octV = (Sha.octets (ws.take j)).map octV ++ [.int .u8 (IntKind.u8.wrap ((x : Int) / 16777216)), .int .u8 (IntKind.u8.wrap ((x : Int) / 65536)), .int .u8 (IntKind.u8.wrap ((x : Int) / 256)), .int .u8 (IntKind.u8.wrap (x : Int))] := by
  rw [List.take_add_one, h, Option.toList_some, octets_more, List.map_append]
  congr 1

set_option maxRecDepth 100000 in
set_option maxHeartbeats 4000000 in
theorem refSum_any (s : ByteArray) (w : World) (hs : s.size ≤ 2 ^ 40) :
    Calls Tryd.prog 14 #[.string s] w fun e w' => e = .returned (.string (sumS s)) ∧ Below w.heap.size w w' := by
  obtain ⟨i0, hi, hz0, hz1, hz2⟩ := info_parts infoByte
  have hnl := natBytes_length s
  have hel := extL_length (natBytes s) (by omega)
  have HBO := Lib.hid (blocks_ok s)
  have HFL := Lib.hid (flat_at (Sha.blocks (natBytes s)) (fun b hb => (blocks_ok s b hb).1))
  have HEX := Lib.hid (fun W => refExt_any s W hs)
  have HEN := Lib.hid (show (Sha.blocks (natBytes s)).flatten = extL (natBytes s) from rfl)
  rw [HEN.out] at HFL
  have HSS := Lib.hid (show (⟨((Sha.octets (Sha.over Sha.start (Sha.blocks (natBytes s))).list).map UInt8.ofNat).toArray⟩ : ByteArray) = sumS s from rfl)
  have hnb : (Sha.blocks (natBytes s)).length ≤ 2 ^ 40 := by
    have h1 := extL_eq (natBytes s) (by omega)
    have h2 : (extL (natBytes s)).length = (natBytes s).length + 1 + (padN (natBytes s).length + 8) := by
      rw [h1]; simp [lenB]; omega
    have h3 := padN_lt (natBytes s).length
    omega
  have hpos : 0 < (Sha.blocks (natBytes s)).length := by
    have h1 := extL_eq (natBytes s) (by omega)
    have h2 : (extL (natBytes s)).length = (natBytes s).length + 1 + (padN (natBytes s).length + 8) := by
      rw [h1]; simp [lenB]; omega
    omega
  clear hnl HEN
  generalize Sha.blocks (natBytes s) = bs at *
  generalize extL (natBytes s) = E at *
  obtain ⟨nb, hnbl⟩ : ∃ n, bs.length = n := ⟨_, rfl⟩
  rw [hnbl] at hel hnb hpos
  have HNB := Lib.hid hnbl
  have HEL := Lib.hid hel
  clear hnbl hel
  go_enter Tryd.func14, Tryd.ntmps14
  go_upto_region 2 with (fail)
  refine wp_named fun w1 hw => ?_
  have R1 : Row w1 w.heap.size 47 (stC Sha.start) ∧ Below w.heap.size w w1 ∧ w.heap.size < w1.heap.size := by
    rw [hw]
    exact ⟨Row.new w _ (stC Sha.start), (Below.refl _ _).alloc (Nat.le_refl _) _, by simp⟩
  obtain ⟨h0, hh0⟩ : ∃ b, b = w.heap.size := ⟨_, rfl⟩
  rw [← hh0] at R1 ⊢
  have HR := Lib.hid R1
  have HH0 := Lib.hid hh0
  clear hw R1 hh0
  go_wp2_with (go_at_call 44; with_reducible refine Calls.mono (HEX.out _) ?_; rintro e w2 ⟨v, rfl, hb, hown⟩; rw [HEL.out] at hown; have HO := Lib.hid hown; have HB2 := Lib.hid hb; clear hown hb)
  clear HEX
  obtain ⟨gb, cb, rfl, hgb, hgl⟩ := own_slice HO.out (by omega)
  have hcb : 64 * nb ≤ cb ∧ cb ≤ maxLen := by
    obtain ⟨o', c', e', h1, h2, _⟩ := own_form HO.out
    cases e'
    exact ⟨h1, h2⟩
  have HCB := Lib.hid (fun (W : World) (hW : Below w2.heap.size w2 W) => (⟨fun k x hx q y hy => (hW.cell (p := ⟨gb, 64 * k + q, none⟩) hgl).trans (own_at HO.out (by rw [List.getElem?_map, HFL.out k q x y hx hy]; rfl)), Nat.lt_of_lt_of_le hgl hW.size⟩ : (∀ k x, bs[k]? = some x → ∀ q y, x[q]? = some y → W.cell? ⟨gb, 64 * k + q, none⟩ = some (octV y)) ∧ gb < W.heap.size))
  have HB0 := Lib.hid (show Below w.heap.size w w2 from by
    have h1 := HR.out.2.1
    rw [HH0.out] at h1
    exact Below.andThen h1 HB2.out)
  have HR0 := Lib.hid (show (∀ j u, (stC Sha.start)[j]? = some u → w2.cell? ⟨h0, j, none⟩ = some u) ∧ h0 < w2.heap.size from ⟨fun j u hu => by rw [(HR.out.1.next HB2.out).cell]; exact hu, (HR.out.1.next HB2.out).lt⟩)
  clear HR HO HB2 HFL hgb hgl HH0
  unfold maxLen at hcb
  obtain ⟨hcb1, hcb2⟩ := hcb
  go_loopw [3, 5] (fun v i wr => ∃ (k I hb hc : Nat), k ≤ nb ∧ I = 64 * k ∧ i = .int .i64 I ∧ v = .slice (some ⟨hb, 0, none⟩) 8 hc ∧ hb < wr.heap.size ∧ (∀ j u, (stC (Sha.over Sha.start (bs.take k)))[j]? = some u → wr.cell? ⟨hb, j, none⟩ = some u) ∧ Below w2.heap.size w2 wr) (fun _ i _ => 64 * nb - (intOf i).toNat)
  case atStart => exact ⟨0, 0, h0, 8, Nat.zero_le _, rfl, rfl, rfl, HR0.out.2, HR0.out.1, Below.refl _ _⟩
  case round =>
    clear HR0
    obtain ⟨k, I, hb, hc, hk, hI, rfl, rfl, hbl, hcell, hB⟩ := hrel
    by_cases hlt : k < nb
    · obtain ⟨x, hx⟩ : ∃ x, bs[k]? = some x := ⟨_, List.getElem?_eq_getElem (by rw [HNB.out]; exact hlt)⟩
      have hxo := HBO.out x (List.mem_of_getElem? hx)
      have HCX := Lib.hid (show ∀ q y, x[q]? = some y → wr.cell? ⟨gb, I + q, none⟩ = some (octV y) from by rw [hI]; exact (HCB.out wr hB).1 k x hx)
      have hgw := (HCB.out wr hB).2
      have CB := Lib.hid (fun c => refBlock_any (Sha.over Sha.start (bs.take k)) x hb hc gb I c wr (over_ok _) hxo.1 hxo.2 hcell hbl HCX.out hgw)
      rw [← over_more] at CB
      have HTK := Lib.hid (show bs.take k ++ [x] = bs.take (k + 1) from by rw [List.take_add_one, hx]; rfl)
      rw [HTK.out] at CB
      have HB := Lib.hid hB
      have b0 : (I : Int) + 64 ≤ 64 * nb := by omega
      have b1 : (I : Int) < 64 * nb := by omega
      have b2 : (I : Int) + 64 ≤ cb := by omega
      have b3 : (I : Int) ≤ I + 64 := by omega
      have b4 : (I : Int) < ((64 * nb : Nat) : Int) := by omega
      have b5 : (I : Int) + 64 - I = 64 := by omega
      have wI : IntKind.i64.wrap ((I : Int) + 64) = (I : Int) + 64 := by simp [IntKind.wrap, IntKind.bits, IntKind.signed]; omega
      have HI := Lib.hid hI
      clear hcell hB hxo hx HCX HTK hI
      go_wp2_with (go_at_call 45; with_reducible refine Calls.mono (CB.out _) ?_; rintro e w3 ⟨v, rfl, hb3, hown⟩; have HO := Lib.hid hown; have HB3 := Lib.hid hb3; clear hown hb3)
      go_roundw
      case rel =>
        obtain ⟨g, c, rfl, _, hgl⟩ := own_slice HO.out (by omega)
        exact ⟨k + 1, I + 64, g, c, by omega, by rw [HI.out]; omega, by go_num, rfl, hgl, fun j u hu => own_at HO.out hu, Below.andThen HB.out HB3.out⟩
      case measure => simp [intOf]; omega
    · obtain rfl : k = nb := by omega
      rw [List.take_of_length_le (by rw [HNB.out]; exact Nat.le_refl _)] at hcell
      have hok := over_ok bs
      have d0 : ¬ (I : Int) < 64 * k := by omega
      have d1 : decide ((I : Int) < 64 * k) = false := by simp; omega
      have d2 : decide ((I : Int) < ((64 * k : Nat) : Int)) = false := by simp; omega
      have HCC := Lib.hid (fun (W : World) (hW : Below wr.heap.size wr W) => (⟨fun q x hx => (hW.cell (p := ⟨hb, q, none⟩) hbl).trans (hcell q _ (stC_at _ q x hx)), Nat.lt_of_lt_of_le hbl hW.size, Below.andThen (Below.andThen HB0.out hB) hW⟩ : (∀ q x, (Sha.over Sha.start bs).list[q]? = some x → W.cell? ⟨hb, q, none⟩ = some (wordV x)) ∧ hb < W.heap.size ∧ Below w.heap.size w W))
      have HOK := Lib.hid hok
      generalize Sha.over Sha.start bs = S at *
      obtain ⟨B0, hB0⟩ : ∃ b, b = wr.heap.size := ⟨_, rfl⟩
      have hBL : B0 ≤ wr.heap.size := by rw [hB0]; exact Nat.le_refl _
      rw [← hB0] at HCC
      have HBB := Lib.hid (show Below B0 wr wr by rw [hB0]; exact Below.refl _ _)
      clear hB0 hcell hok hB HBO HCB HB0 hbl hk
      go_wp2_with fail
      go_loopw [6, 7] (fun v i wz => ∃ j : Nat, j ≤ 8 ∧ i = .int .i64 j ∧ wz.ownsRow B0 5 1 v (4 * j) ((Sha.octets (S.list.take j)).map octV) ∧ Below B0 wr wz) (fun _ i _ => 8 - (intOf i).toNat)
      case atStart => exact ⟨0, by omega, rfl, World.ownsRow_nil _ _ _ _, HBB.out⟩
      case round =>
        clear HBB d0 d1 d2 hI
        obtain ⟨j, hj, rfl, hrow, hB⟩ := hrel
        by_cases hlt : j < 8
        · obtain ⟨sj, hsj⟩ : ∃ x, S.list[j]? = some x := ⟨_, List.getElem?_eq_getElem hlt⟩
          have hs32 : sj < 2 ^ 32 := HOK.out sj (List.mem_of_getElem? hsj)
          have HSN := Lib.hid (octet_snoc S.list j sj hsj hs32)
          have G0 := Lib.hid hsj
          have c0 := (HCC.out _ hB).1 j _ hsj
          have hob := own_block hrow
          have HB := Lib.hid hB
          have hbs : B0 ≤ wr.heap.size := Nat.le_trans hBL hB.size
          clear hB hsj
          go_upto_region 11 with (fail)
          (go_region_held3 (fun w' => w'.cell? ⟨hb, j, none⟩ = some (wordV sj)) (first | assumption | go_keep)
            (first | (refine step_append_lies _ rfl (.tmp 28) (.tmp 52) 43 rfl B0 5 i0 (.int .u8 0) 1 1 Tryd.underlying43 hi hz0 hz1 hz2 rfl (by decide) _ _ _ rfl (hrow.drew.alloc _) ⟨wr.heap.size, 0, none⟩ 4 4 [_, _, _, _] rfl rfl (cells_new _ _ _) (by simp [Value.oneCell']) (by decide) (by unfold maxLen; omega) (by omega) (by simp; omega) _ rfl ?_; intro v' cap' w1 hown' hgrow _ _; have hbw := ((HB.out.drew.alloc hbs _).grown hgrow (by simp; omega) hob); have K := Lib.hid (And.intro hown' hbw); have n0 := (HCC.out _ hbw).1 j _ G0.out; clear hown' hgrow hbw)))
          clear c0
          go_wp2_with fail
          go_roundw
          case rel => exact ⟨j + 1, by omega, by go_num, own_is K.out.1 (by omega) HSN.out.symm, K.out.2⟩
          case measure => simp [intOf]; omega
        · obtain rfl : j = 8 := by omega
          rw [List.take_of_length_le (by rw [list_len]; exact Nat.le_refl _)] at hrow
          obtain ⟨g, cap, rfl, _, _⟩ := own_slice hrow (by omega)
          have hlo : (Sha.octets S.list).length = 32 := by rw [octets_length]; rfl
          have hlt' := octets_lt S.list
          have hconv := run_convert_bytes_back (P := Tryd.prog) wr 43 9 5 ⟨g, 0, none⟩ cap ((Sha.octets S.list).map UInt8.ofNat) Tryd.underlying43 Tryd.underlying5 Tryd.underlying9 (fun j hj => by
            have hj' : j < (Sha.octets S.list).length := by simpa using hj
            refine hrow.cells (g := g) rfl j _ ?_
            rw [List.getElem?_map, List.getElem?_eq_getElem hj', Option.map_some]
            have h1 := hlt' _ (List.getElem_mem hj')
            simp
            omega)
          rw [List.length_map, hlo, HSS.out] at hconv
          have HF := Lib.hid (HCC.out _ hB).2.2
          clear hrow hB hlt hj hlo hlt'
          go_wp2_with fail
          go_ret
          exact ⟨rfl, HF.out⟩

theorem app_size1 (x : UInt8) (s : ByteArray) : ((⟨#[x]⟩ : ByteArray) ++ s).size = 1 + s.size := by rw [app_cat, catS_size]; rfl
set_option maxHeartbeats 400000 in
theorem refLeaf_any (s : ByteArray) (w : World) (hs : s.size ≤ 2 ^ 38) :
    Calls Tryd.prog 16 #[.string s] w fun e w' => e = .returned (.string (leafS s)) ∧ Below w.heap.size w w' := by
  have CS := Lib.hid (fun W => refSum_any (⟨#[0]⟩ ++ s) W (by rw [app_size1]; omega))
  have e : leafS s = sumS (⟨#[0]⟩ ++ s) := by rw [app_cat]; rfl
  rw [e]
  have hz : ¬ 9223372036854775807 < 1 + s.size := by omega
  clear e
  go_enter Tryd.func16, Tryd.ntmps16
  go_wp2_with (go_at_call 14; with_reducible refine Calls.mono (CS.out _) ?_; rintro e w2 ⟨rfl, hb⟩; have HB := Lib.hid hb; clear hb)
  go_ret
  exact ⟨rfl, HB.out⟩
set_option maxHeartbeats 400000 in
theorem refNode_any (a b : ByteArray) (w : World) (ha : a.size ≤ 2 ^ 38) (hb : b.size ≤ 2 ^ 38) :
    Calls Tryd.prog 18 #[.string a, .string b] w fun e w' => e = .returned (.string (nodeS a b)) ∧ Below w.heap.size w w' := by
  have CS := Lib.hid (fun W => refSum_any (⟨#[1]⟩ ++ a ++ b) W (by rw [app_cat (_ ++ _), catS_size, app_size1]; omega))
  have e : nodeS a b = sumS (⟨#[1]⟩ ++ a ++ b) := by rw [app_cat, app_cat]; rfl
  rw [e]
  have hz : ¬ 9223372036854775807 < 1 + a.size := by omega
  have hz2 : ¬ 9223372036854775807 < 1 + a.size + b.size := by omega
  clear e
  go_enter Tryd.func18, Tryd.ntmps18
  go_wp2_with (go_at_call 14; with_reducible refine Calls.mono (CS.out _) ?_; rintro e w2 ⟨rfl, hb⟩; have HB := Lib.hid hb; clear hb)
  go_ret
  exact ⟨rfl, HB.out⟩
set_option maxHeartbeats 400000 in
theorem refChain_any (a b : ByteArray) (w : World) (ha : a.size ≤ 2 ^ 38) (hb : b.size ≤ 2 ^ 38) :
    Calls Tryd.prog 20 #[.string a, .string b] w fun e w' => e = .returned (.string (chainS a b)) ∧ Below w.heap.size w w' := by
  have CS := Lib.hid (fun W => refSum_any (⟨#[2]⟩ ++ a ++ b) W (by rw [app_cat (_ ++ _), catS_size, app_size1]; omega))
  have e : chainS a b = sumS (⟨#[2]⟩ ++ a ++ b) := by rw [app_cat, app_cat]; rfl
  rw [e]
  have hz : ¬ 9223372036854775807 < 1 + a.size := by omega
  have hz2 : ¬ 9223372036854775807 < 1 + a.size + b.size := by omega
  clear e
  go_enter Tryd.func20, Tryd.ntmps20
  go_wp2_with (go_at_call 14; with_reducible refine Calls.mono (CS.out _) ?_; rintro e w2 ⟨rfl, hb⟩; have HB := Lib.hid hb; clear hb)
  go_ret
  exact ⟨rfl, HB.out⟩
set_option maxHeartbeats 400000 in
theorem refLeft_any (n : Nat) (w : World) (h2 : 2 ≤ n) (hn : n ≤ 9223372036854775807) : Calls Tryd.prog 50 #[.int .i64 n] w fun e w' => e = .returned (.int .i64 (splitN n)) ∧ w = w' := by
  go_enter Tryd.func50, Tryd.ntmps50
  go_wp2
  go_loop [3] (fun k => ∃ j : Nat, k = .int .i64 ((2 ^ j : Nat) : Int) ∧ 2 ^ j < n) (fun k => n - (intOf k).toNat)
  case atStart => exact ⟨0, rfl, by simp; omega⟩
  case round =>
    obtain ⟨j, rfl, hj⟩ := hrel
    have hp := Nat.one_le_two_pow (n := j)
    have e2 : 2 ^ (j + 1) = 2 * 2 ^ j := by rw [Nat.pow_succ]; omega
    by_cases hlt : 2 ^ j < n - 2 ^ j
    · have HE := Lib.hid e2
      clear e2
      generalize hq : 2 ^ j = q at *
      have HQ := Lib.hid hq
      clear hq
      have d1 : decide ((q : Int) < (n : Int) - q) = true := by simp; omega
      go_wp2
      go_round
      case rel => exact ⟨j + 1, by rw [HE.out]; exact vint (by omega), by rw [HE.out]; omega⟩
      case measure => simp [intOf]; omega
    · have HS := Lib.hid (splitN_is hj (by omega))
      clear e2
      generalize 2 ^ j = q at *
      have d1 : decide ((q : Int) < (n : Int) - q) = false := by simp; omega
      go_wp2
      go_ret
      exact ⟨retv (vint (by rw [HS.out])), rfl⟩
end Go.Proofs.YtojfblkmhdgjeaaDoor
