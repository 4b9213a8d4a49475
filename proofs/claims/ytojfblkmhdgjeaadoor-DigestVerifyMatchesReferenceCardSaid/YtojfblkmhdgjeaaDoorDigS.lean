/- What all the laws on digests call: hexadecimal, few, left, binary; and the fixed examples. -/
import Derived.Test.YtojfblkmhdgjeaaDoorDigL
import Derived.Test.YtojfblkmhdgjeaaDoorDigJ
import Derived.Lib.MinMax
namespace Go.Proofs.YtojfblkmhdgjeaaDoor
open Go.RowKit Go.Shelf

/-! ### hexadecimal -/
def allC : ByteArray := ⟨#[48, 49, 50, 51, 52, 53, 54, 55, 56, 57, 97, 98, 99, 100, 101, 102]⟩
def hexMore (out : ByteArray) (b : Nat) : ByteArray := (out ++ allC.extract (b / 16) (b / 16 + 1)) ++ allC.extract (b % 16) (b % 16 + 1)
def hexL (l : List Nat) : ByteArray := l.foldl hexMore ⟨#[]⟩
theorem hexL_more (l : List Nat) (b : Nat) : hexL (l ++ [b]) = hexMore (hexL l) b := by simp [hexL]
theorem hexL_size (l : List Nat) : (hexL l).size ≤ 2 * l.length := by
  have h : ∀ (l : List Nat) (o : ByteArray), (l.foldl hexMore o).size ≤ o.size + 2 * l.length := by
    intro l
    induction l with
    | nil => intro o; simp
    | cons b l ih =>
      intro o
      have h1 := ih (hexMore o b)
      have h2 : (hexMore o b).size ≤ o.size + 2 := by
        unfold hexMore
        simp only [ByteArray.size_append, ByteArray.size_extract]
        omega
      simp only [List.foldl_cons, List.length_cons]
      omega
  have h1 := h l ⟨#[]⟩
  have h0 : (⟨#[]⟩ : ByteArray).size = 0 := rfl
  show (l.foldl hexMore ⟨#[]⟩).size ≤ _
  omega
theorem run_index_at {P : Program} (w : World) (t : TypeId) (s : ByteArray) (k : IntKind) (i : Nat) (h : P.underlying t = some .string) (hi : i < s.size) :
    (Instr.index t (.string s) (.int k (i : Int))).run P w = .ok (.int .u8 (s[i]'hi).toNat) w := by
  rw [run_index_string w t s k i h, dif_pos (by omega)]
  rfl
set_option maxRecDepth 100000 in
set_option maxHeartbeats 1000000 in
theorem hex_any (s : ByteArray) (w : World) (hs : s.size ≤ 1000) : Calls Tryd.prog 39 #[.string s] w fun e w' => e = .returned (.string (hexL (natBytes s))) ∧ Below w.heap.size w w' := by
  have hnl := natBytes_length s
  have HNL := Lib.hid hnl
  have HBL := Lib.hid (natBytes_lt s)
  go_enter Tryd.func39, Tryd.ntmps39
  go_wp2
  go_loopw [3, 4] (fun o i wr => ∃ k : Nat, k ≤ s.size ∧ i = .int .i64 k ∧ o = .string (hexL ((natBytes s).take k)) ∧ Below w.heap.size w wr) (fun _ i _ => s.size - (intOf i).toNat)
  case atStart => exact ⟨0, Nat.zero_le _, rfl, rfl, Below.refl _ _⟩
  case round =>
    obtain ⟨k, hk, rfl, rfl, hB⟩ := hrel
    by_cases hlt : k < s.size
    · have hk' : k < (natBytes s).length := by omega
      have hz := hexL_size ((natBytes s).take k)
      rw [List.length_take] at hz
      have HE := Lib.hid (show hexL ((natBytes s).take (k + 1)) = hexMore (hexL ((natBytes s).take k)) s[k].toNat by
        rw [List.take_succ_eq_append_getElem hk', hexL_more]
        simp [natBytes]
        rfl)
      have hz2 : (hexL ((natBytes s).take k)).size ≤ 2000 := by omega
      have hb := s[k].toNat_lt
      have HB := Lib.hid hB
      have i1 := fun (w : World) => run_index_at (P := Tryd.prog) w 9 s .i64 k rfl hlt
      generalize s[k].toNat = x at *
      generalize ho2 : hexL ((natBytes s).take (k + 1)) = o2 at *
      have HO2 := Lib.hid ho2
      clear ho2
      generalize hexL ((natBytes s).take k) = o1 at *
      clear hz hk' hB hnl
      have x1 : x / 16 < 16 := by omega
      have x2 : x % 16 < 16 := by omega
      have x3 : (0 : Int) ≤ (x : Int) / 16 := by omega
      have x4 : (0 : Int) ≤ (x : Int) % 16 := by omega
      have x5 : (x : Int) / 16 < 16 := by omega
      have x6 : (x : Int) % 16 < 16 := by omega
      go_upto_region 5 with (fail)
      refine wp_region_quiet_lit (by kernel_rfl) (by kernel_rfl) ?_
      repeat (go_big_quiet_step (fail))
      refine wpQuiet_nil ?_
      rintro _ ⟨nq, rfl⟩
      go_wp2
      go_roundw
      case rel => exact ⟨k + 1, hlt, by go_num, by rw [HO2.out, HE.out]; rfl, below_drewN HB.out nq⟩
      case measure => simp [intOf]; omega
    · obtain rfl : k = s.size := by omega
      rw [List.take_of_length_le (by omega)]
      have HB := Lib.hid hB
      clear hB
      go_wp2
      go_ret
      exact ⟨rfl, HB.out⟩

/-! ### few: an own list of strings, each cut to 60 bytes -/
def cut60 (s : ByteArray) : ByteArray := s.extract 0 (min (s.size : Int) 60).toNat
theorem cut60_size (s : ByteArray) : (cut60 s).size ≤ 60 := by
  unfold cut60
  rw [ByteArray.size_extract]
  omega
def fewS (S : Nat → ByteArray) (n : Nat) : List ByteArray := (List.range n).map fun i => cut60 (S i)
theorem fewS_more (S : Nat → ByteArray) (n : Nat) : fewS S (n + 1) = fewS S n ++ [cut60 (S n)] := by simp [fewS, List.range_succ]
theorem fewS_length (S : Nat → ByteArray) (n : Nat) : (fewS S n).length = n := by simp [fewS]
theorem fewS_small (S : Nat → ByteArray) (n : Nat) : ∀ x ∈ fewS S n, x.size ≤ 60 := by
  intro x hx
  obtain ⟨i, _, rfl⟩ := List.mem_map.1 hx
  exact cut60_size _
/-- an own row of strings -/
def OwnS (w : World) (B : Nat) (v : Value) (xs : List ByteArray) : Prop := w.ownsRow B 9 1 v xs.length (xs.map strV)
set_option maxRecDepth 100000 in
set_option maxHeartbeats 2000000 in
theorem few_any (o : Option Addr) (n c K : Nat) (S : Nat → ByteArray) (w : World) (hK : K ≤ 1000) (hn : n ≤ maxLen) (hs : ∀ i, i < n → (S i).size ≤ maxLen)
    (hcell : ∀ i, i < n → ∃ a, o = some a ∧ ∀ w', Below w.heap.size w w' → w'.cell? (a.add i) = some (.string (S i))) :
    Calls Tryd.prog 21 #[.slice o n c, .int .i64 K] w fun e w' => ∃ v, e = .returned v ∧ OwnS w' w.heap.size v (fewS S (min n K)) ∧ Below w.heap.size w w' := by
  obtain ⟨i0, hi0, hz0, hz1, hz2⟩ := info_parts infoStr
  have HC := Lib.hid hcell
  have HSZ := Lib.hid hs
  unfold maxLen at hn
  clear hcell hs
  go_enter Tryd.func21, Tryd.ntmps21
  go_wp2
  go_loopw [5, 6] (fun v i wr => ∃ (V : Value) (k : Nat), V = v ∧ k ≤ n ∧ k ≤ K ∧ i = .int .i64 k ∧ wr.ownsRow w.heap.size 9 1 v k ((fewS S k).map strV) ∧ Below w.heap.size w wr) (fun _ i _ => n - (intOf i).toNat)
  case atStart => exact ⟨_, 0, rfl, Nat.zero_le _, Nat.zero_le _, rfl, World.ownsRow_nil _ _ _ _, Below.refl _ _⟩
  case round =>
    obtain ⟨V, k, rfl, hk, hkK, rfl, hown, hB⟩ := hrel
    by_cases hlt : k < n ∧ k < K
    · obtain ⟨hlt, hltK⟩ := hlt
      obtain ⟨a, rfl, ha⟩ := HC.out k hlt
      have hc1 := ha wr hB
      have hc2 := ha wr.drew hB.drew
      have hsz := HSZ.out k hlt
      unfold maxLen at hsz
      have HO := Lib.hid (And.intro hown hB)
      have hbs := hB.size
      have HM := Lib.hid (fewS_more S k)
      have hx60 : (S k).extract 0 (min ((S k).size : Int) 60).toNat = cut60 (S k) := rfl
      have m1 : 0 ≤ min ((S k).size : Int) 60 := by omega
      have m2 : min ((S k).size : Int) 60 ≤ ((S k).size : Int) := by omega
      generalize hSk : S k = s at *
      have HSK := Lib.hid hSk
      clear hown hB ha hSk
      go_upto_region 5 with (fail)
      go_region_law (refine step_append_lies _ rfl (.tmp 18) (.tmp 30) 26 rfl w.heap.size 9 i0 (.string ⟨#[]⟩) 1 16 Tryd.underlying26 hi0 hz0 hz1 hz2 rfl (by decide) V k ((fewS S k).map strV) rfl ((below_own HO.out.1 (Below.refl _ _).drew).alloc _) _ 1 1 [.string (cut60 s)] rfl rfl (cells_new _ _ _) (by simp [Value.oneCell']) (by decide) (by unfold maxLen; omega) (by omega) (by simp; omega) _ rfl ?_; intro g cap w2 hown2 hgrow _ _; have HG := Lib.hid (And.intro hown2 hgrow); clear hown2 hgrow)
      go_simp
      go_wp2_with fail
      all_goals
        obtain ⟨hown2, hgrow⟩ := HG.out
        refine ⟨⟨_, k + 1, rfl, by omega, by omega, by go_num, ?_, ?_⟩, by simp [intOf]; omega⟩
        · rw [HM.out, List.map_append]
          exact hown2
        · exact (HO.out.2.drew.alloc hbs _).grown hgrow (by simp; omega) (own_block HO.out.1)
    · have hK2 : k = min n K := by omega
      have HO := Lib.hid (show OwnS wr w.heap.size V (fewS S (min n K)) ∧ Below w.heap.size w wr by
        rw [← hK2]
        refine ⟨?_, hB⟩
        unfold OwnS
        rw [fewS_length]
        exact hown)
      clear hown hB hK2
      by_cases h1 : k < n
      · have h2 : ¬ k < K := fun h => hlt ⟨h1, h⟩
        have d1 : decide ((k : Int) < K) = false := by simp; omega
        clear hlt
        go_wp2_with fail
        go_ret
        exact ⟨_, rfl, HO.out⟩
      · have d1 : decide ((k : Int) < n) = false := by simp; omega
        clear hlt
        go_wp2_with fail
        go_ret
        exact ⟨_, rfl, HO.out⟩

/-! ### left, binary -/
set_option maxHeartbeats 400000 in
theorem left_any (n : Nat) (w : World) (h2 : 2 ≤ n) (hn : n ≤ 9223372036854775807) : Calls Tryd.prog 38 #[.int .i64 n] w fun e w' => e = .returned (.int .i64 (splitN n)) ∧ w = w' := by
  go_enter Tryd.func38, Tryd.ntmps38
  go_wp2
  go_loop [3] (fun k => ∃ j : Nat, k = .int .i64 ((2 ^ j : Nat) : Int) ∧ 2 ^ j < n) (fun k => n - (intOf k).toNat)
  case atStart => exact ⟨0, rfl, by simp; omega⟩
  case round =>
    obtain ⟨j, rfl, hj⟩ := hrel
    have hp := Nat.one_le_two_pow (n := j)
    have e2 : 2 ^ (j + 1) = 2 * 2 ^ j := by rw [Nat.pow_succ]; omega
    by_cases hlt : 2 ^ j < n - 2 ^ j
    · have HE := Lib.hid e2
      clear e2
      generalize hq : 2 ^ j = q at *
      have HQ := Lib.hid hq
      clear hq
      have d1 : decide ((q : Int) < (n : Int) - q) = true := by simp; omega
      go_wp2
      go_round
      case rel => exact ⟨j + 1, by rw [HE.out]; exact vint (by omega), by rw [HE.out]; omega⟩
      case measure => simp [intOf]; omega
    · have HS := Lib.hid (splitN_is hj (by omega))
      clear e2
      generalize 2 ^ j = q at *
      have d1 : decide ((q : Int) < (n : Int) - q) = false := by simp; omega
      go_wp2
      go_ret
      exact ⟨retv (vint (by rw [HS.out])), rfl⟩
end Go.Proofs.YtojfblkmhdgjeaaDoor
