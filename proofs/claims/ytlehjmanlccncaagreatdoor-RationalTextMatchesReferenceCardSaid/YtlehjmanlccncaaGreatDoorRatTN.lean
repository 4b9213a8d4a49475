/- Texts of fractions, there and back. -/
import Derived.Test.YtlehjmanlccncaaGreatDoorRatQC
import Derived.Test.YtlehjmanlccncaaGreatDoorRatRC
import Derived.Test.YtlehjmanlccncaaGreatDoorRatCut
set_option linter.unusedVariables false
set_option linter.unusedSimpArgs false
namespace Go.Proofs.YtlehjmanlccncaaGreatDoor
open Go.RowKit

theorem dec_no (u : Nat) : ∀ c ∈ Lib.decDigits u, c ≠ 47 := fun c hc h => by
  have := In.dec_dig u c hc
  rw [h] at this
  exact absurd this (by decide)
theorem txt_no (z : Int) : ∀ c ∈ (In.txt z).data.toList, c ≠ 47 := fun c hc h => by
  have e : (In.txt z).data.toList = Lib.itoa z := In.txt_list z
  rw [e] at hc
  unfold Lib.itoa at hc
  split at hc
  · rcases List.mem_cons.1 hc with k | k
    · rw [k] at h; exact absurd h (by decide)
    · exact dec_no _ c k h
  · exact dec_no _ c hc h
theorem at_no {s : ByteArray} (h : ∀ c ∈ s.data.toList, c ≠ 47) (k : Nat) : s.data.toList[k]? ≠ some 47 := fun e => h 47 (List.mem_of_getElem? e) rfl
theorem parts_pr {p : Int × Int} (hp : Ra.Ok p) : Ra.partsS (Ra.prS (some p)) = Ra.tx (some p) := by
  unfold Ra.prS
  dsimp only
  split
  · rename_i h
    rw [Ra.parts_miss (at_no (txt_no p.1))]
    show (In.txt p.1, _) = (In.txt p.1, In.txt p.2)
    rw [h, ← (In.num_some num1).1]
  · have hl : (In.txt p.1 ++ ⟨#[47]⟩ ++ In.txt p.2).data.toList = (In.txt p.1).data.toList ++ ([47] ++ (In.txt p.2).data.toList) := by
      rw [ba_append, ba_append, List.append_assoc]
    have hlen : (In.txt p.1).data.toList.length = (In.txt p.1).size := (Lib.size_eq _).symm
    have e1 : (In.txt p.1 ++ ⟨#[47]⟩ ++ In.txt p.2).data.toList[(In.txt p.1).size]? = some 47 := by
      rw [hl, List.getElem?_append_right (by omega), hlen, Nat.sub_self]
      rfl
    have e2 : ∀ k : Nat, k < (In.txt p.1).size → (In.txt p.1 ++ ⟨#[47]⟩ ++ In.txt p.2).data.toList[k]? ≠ some 47 := fun k hk => by
      rw [hl, List.getElem?_append_left (by omega)]
      exact at_no (txt_no p.1) k
    rw [Ra.parts_hit e1 e2]
    refine Prod.ext ?_ ?_
    · apply ba_ext
      show ((In.txt p.1 ++ ⟨#[47]⟩ ++ In.txt p.2).extract 0 (In.txt p.1).size).data.toList = (In.txt p.1).data.toList
      rw [Lib.extract_eq, hl]
      show List.take _ (List.drop 0 _) = _
      rw [List.drop_zero, Nat.sub_zero, ← hlen, List.take_left]
    · apply ba_ext
      show ((In.txt p.1 ++ ⟨#[47]⟩ ++ In.txt p.2).extract ((In.txt p.1).size + 1) (In.txt p.1 ++ ⟨#[47]⟩ ++ In.txt p.2).size).data.toList = (In.txt p.2).data.toList
      rw [Lib.extract_eq, hl]
      have hs : (In.txt p.1 ++ ⟨#[47]⟩ ++ In.txt p.2).size = (In.txt p.1).size + 1 + (In.txt p.2).size := by
        rw [ByteArray.size_append, ByteArray.size_append]; rfl
      have hl2 : (In.txt p.2).data.toList.length = (In.txt p.2).size := (Lib.size_eq _).symm
      show List.take _ (List.drop _ _) = _
      rw [hs, ← List.append_assoc, show (In.txt p.1).size + 1 + (In.txt p.2).size - ((In.txt p.1).size + 1) = (In.txt p.2).data.toList.length by omega,
        show (In.txt p.1).size + 1 = ((In.txt p.1).data.toList ++ [47]).length by rw [List.length_append, hlen]; rfl, List.drop_left, List.take_length]
theorem parse_pr {p : Int × Int} (hp : Ra.Ok p) : Ra.parseS (Ra.prS (some p)) = some p := by
  have h := parts_pr hp
  unfold Ra.parseS
  rw [h, Ra.val_tx hp]
  exact if_pos ⟨Ra.prS_ne hp, rfl⟩
theorem pr_small {p : Int × Int} (hp : Ra.Ok p) : (Ra.prS (some p)).size ≤ 403 := by
  have h1 := num_size (In.num_fit hp.num)
  have h2 := num_size (In.num_fit hp.den)
  unfold Ra.prS
  dsimp only
  split
  · omega
  · rw [ByteArray.size_append, ByteArray.size_append, show (⟨#[47]⟩ : ByteArray).size = 1 from rfl]
    omega
/-- a pair of texts, its text, and what this is parsed to -/
theorem pair_key (r : ByteArray × ByteArray) : ∃ (S : ByteArray) (t1 t2 : ByteArray) (e : Int) (V : Bool), Ra.prS (Ra.val r) = S ∧ resV (Ra.parseS S) = .tuple #[ratV (t1, t2), .int .i64 e] ∧ (Ra.val r).isSome = V ∧ S.size ≤ 403 ∧
    ((V = false ∧ S = ⟨#[]⟩ ∧ e = 40) ∨ (V = true ∧ S.size ≠ 0 ∧ e = 0 ∧ t1 = r.1 ∧ t2 = r.2)) := by
  cases hv : Ra.val r with
  | none =>
    refine ⟨_, _, _, _, _, rfl, rfl, rfl, Nat.zero_le _, .inl ⟨rfl, rfl, ?_⟩⟩
    rw [show Ra.parseS (Ra.prS none) = none from Ra.parse_miss (.inl rfl)]
    rfl
  | some p =>
    obtain ⟨h1, h2, -, -⟩ := Ra.val_some hv
    refine ⟨_, _, _, _, _, rfl, rfl, rfl, pr_small h2, .inr ⟨rfl, Ra.prS_ne h2, ?_, ?_, ?_⟩⟩
    · rw [parse_pr h2]; rfl
    · rw [parse_pr h2, h1]; rfl
    · rw [parse_pr h2, h1]; rfl
/-- what is parsed is printed -/
theorem parse_print (t : ByteArray) : ∃ (t1 t2 : ByteArray) (e : Int), resV (Ra.parseS t) = .tuple #[ratV (t1, t2), .int .i64 e] ∧ (e = 40 ∨ (e = 0 ∧ Ra.prS (Ra.val (t1, t2)) = t)) := by
  refine ⟨_, _, _, rfl, ?_⟩
  by_cases h : t.size ≠ 0 ∧ Ra.prS (Ra.val (Ra.partsS t)) = t
  · have e : Ra.parseS t = Ra.val (Ra.partsS t) := if_pos h
    have k := h.2
    rw [e]
    cases hv : Ra.val (Ra.partsS t) with
    | none => exact .inl rfl
    | some p =>
      refine .inr ⟨rfl, ?_⟩
      show Ra.prS (Ra.val (Ra.tx (some p))) = t
      rw [Ra.val_tx (Ra.val_some hv).2.1, ← hv]
      exact k
  · have e : Ra.parseS t = none := if_neg h
    rw [e]
    exact .inl rfl
end Go.Proofs.YtlehjmanlccncaaGreatDoor
