/- few: an own list of words, each cut to 60 bytes; an append behind a guard. -/
import Derived.Test.YtebdpdmkehfgfaaDoorWoX
import Derived.Laws.Strings
set_option linter.unusedVariables false
set_option linter.unusedSimpArgs false
namespace Go.Proofs.YtebdpdmkehfgfaaDoor
open Go.RowKit
namespace Wo
def cutB (s : ByteArray) : B := s.data.toList.take 60
theorem cutB_len (s : ByteArray) : (cutB s).length ≤ 60 := by
  unfold cutB
  rw [List.length_take]
  omega
theorem cut_bs (s : ByteArray) : s.extract 0 (min (s.size : Int) 60).toNat = bs (cutB s) := by
  rw [← bs_of (s.extract 0 (min (s.size : Int) 60).toNat)]
  congr 1
  rw [← ByteArray.toList_eq, Lib.extract_toList]
  unfold cutB
  rw [List.drop_zero, Nat.sub_zero]
  have e : s.size = s.data.toList.length := Lib.size_eq s
  by_cases h : s.size ≤ 60
  · rw [show (min (s.size : Int) 60).toNat = s.size by omega, List.take_of_length_le (by omega), List.take_of_length_le (by omega)]
  · rw [show (min (s.size : Int) 60).toNat = 60 by omega]
def fewL (S : Nat → ByteArray) (n : Nat) : List B := (List.range n).map fun i => cutB (S i)
theorem fewL_more (S : Nat → ByteArray) (n : Nat) : fewL S (n + 1) = fewL S n ++ [cutB (S n)] := by simp [fewL, List.range_succ]
theorem fewL_length (S : Nat → ByteArray) (n : Nat) : (fewL S n).length = n := by simp [fewL]
theorem fewL_small (S : Nat → ByteArray) (n : Nat) : ∀ x ∈ fewL S n, x.length ≤ 60 := by
  intro x hx
  obtain ⟨i, _, rfl⟩ := List.mem_map.1 hx
  exact cutB_len _
theorem wpList_append_strs_g {ops : Array Oper} {rest : List Oper} {o : Oper} {a : Act} {w : World} {Q : Exit → Act → World → Prop} (hgd : Region.wanted o (yielded ops a.tmps) = true) (s x : Operand)
    (ho : o.op = .call { callee := .builtin .append, args := #[s, x], argTypes := #[25, 25] }) (hty : o.type = 25)
    (B0 : Nat) (v : Value) (xs : List B) (hs : a.eval s = v) (hown : OwnS w B0 v xs) (po : Option Addr) (m c : Nat) (ns : List B) (hx : a.eval x = .slice po m c) (hm : ns.length = m) (hnil : po = none → c = 0) (hS : SSl w po ns)
    (hl : xs.length + m ≤ 2 ^ 40) (hB : B0 ≤ w.heap.size) (h : ∀ v' w', OwnS w' B0 v' (xs ++ ns) → w.grownBy w' v.ownBlock → wpList Tryd.prog ops Q rest (a.put o.dst v') w') : wpList Tryd.prog ops Q (o :: rest) a w :=
  wpList_step fun _ hK => by
    simp only [hgd, if_true]
    obtain ⟨v', w', hr, h2, h3⟩ := run_append_strs w B0 v xs hown po m c ns hm hnil hS hl hB
    unfold Oper.wp execOp
    simp only [ho, hty, resolve, invoke, builtin, Sem.run_bind, Sem.run_pure, Result.andThen_ok, List.map_toArray, List.map_cons, List.map_nil, hs, hx, hr]
    exact hK _ _ (h v' w' h2 h3)
set_option maxRecDepth 100000 in
set_option maxHeartbeats 2000000 in
theorem few_any (o : Option Addr) (n c : Nat) (S : Nat → ByteArray) (w : World) (hn : n ≤ maxLen) (hs : ∀ i, i < n → (S i).size ≤ maxLen)
    (hcell : ∀ i, i < n → ∃ a, o = some a ∧ ∀ w', Below w.heap.size w w' → w'.cell? (a.add i) = some (.string (S i))) :
    Calls Tryd.prog 25 #[.slice o n c] w fun e w' => ∃ v, e = .returned v ∧ OwnS w' w.heap.size v (fewL S (min n 10)) ∧ Below w.heap.size w w' := by
  have HC := Lib.hid hcell
  have HSZ := Lib.hid hs
  unfold maxLen at hn
  clear hcell hs
  go_enter Tryd.func25, Tryd.ntmps25
  go_wp2
  go_loopw [3, 4] (fun v i wr => ∃ (V : Value) (k : Nat), V = v ∧ k ≤ n ∧ k ≤ 10 ∧ i = .int .i64 k ∧ OwnS wr w.heap.size V (fewL S k) ∧ Below w.heap.size w wr) (fun _ i _ => n - (intOf i).toNat)
  case atStart => exact ⟨_, 0, rfl, Nat.zero_le _, Nat.zero_le _, rfl, ownS_nil _ _, Below.refl _ _⟩
  case round =>
    obtain ⟨V, k, rfl, hk, hkK, rfl, hown, hB⟩ := hrel
    by_cases hlt : k < n ∧ k < 10
    · obtain ⟨hlt, hltK⟩ := hlt
      obtain ⟨a, rfl, ha⟩ := HC.out k hlt
      have hc1 := ha wr hB
      have hc2 := ha wr.drew hB.drew
      have hsz := HSZ.out k hlt
      unfold maxLen at hsz
      have HO := Lib.hid (And.intro hown hB)
      have hbs := hB.size
      have HM := Lib.hid (fewL_more S k)
      have hx60 : (S k).extract 0 (min ((S k).size : Int) 60).toNat = bs (cutB (S k)) := cut_bs (S k)
      have m1 : 0 ≤ min ((S k).size : Int) 60 := by omega
      have m2 : min ((S k).size : Int) 60 ≤ ((S k).size : Int) := by omega
      have HLL := Lib.hid (fewL_length S k)
      generalize cutB (S k) = x at *
      generalize hSk : S k = s at *
      have HSK := Lib.hid hSk
      clear hown hB ha hSk
      go_upto_region 5 with (fail)
      go_region_law (refine step_append_strs rfl (.tmp 15) (.tmp 27) rfl rfl w.heap.size V (fewL S k) rfl ((HO.out.1.next (Below.refl _ _).drew).next ((Below.refl _ _).alloc (Nat.le_refl _) _)) _ 1 1 [x] rfl rfl (fun h => by cases h) (ssl_new _ _ [x]) (by rw [HLL.out]; omega) (by simp; omega) ?_; intro g w2 hown2 hgrow; have HG := Lib.hid (And.intro hown2 hgrow); clear hown2 hgrow)
      go_simp
      go_wp2_with fail
      all_goals
        obtain ⟨hown2, hgrow⟩ := HG.out
        refine ⟨⟨_, k + 1, rfl, by omega, by omega, by go_num, ?_, ?_⟩, by simp [intOf]; omega⟩
        · rw [HM.out]
          exact hown2
        · exact (HO.out.2.drew.alloc hbs _).grown hgrow (by simp; omega) (own_block HO.out.1)
    · have hK2 : k = min n 10 := by omega
      have HO := Lib.hid (show OwnS wr w.heap.size V (fewL S (min n 10)) ∧ Below w.heap.size w wr by
        rw [← hK2]
        exact ⟨hown, hB⟩)
      clear hown hB hK2
      by_cases h1 : k < n
      · have h2 : ¬ k < 10 := fun h => hlt ⟨h1, h⟩
        have d1 : decide ((k : Int) < 10) = false := by simp; omega
        clear hlt
        go_wp2_with fail
        go_ret
        exact ⟨_, rfl, HO.out⟩
      · have d1 : decide ((k : Int) < n) = false := by simp; omega
        clear hlt
        go_wp2
        go_ret
        exact ⟨_, rfl, HO.out⟩
end Wo
end Go.Proofs.YtebdpdmkehfgfaaDoor
