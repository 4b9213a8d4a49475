/- The greatest group for which a closure is true: sort.Search and greatest. -/
import Derived.Test.YtjhnfejlkljkjaaGreatDoorIntF
namespace Go.Proofs.YtjhnfejlkljkjaaGreatDoor
open Go.RowKit

set_option maxRecDepth 100000 in
set_option maxHeartbeats 1000000 in
/-- sort.Search over the closure of greatest; I: what the closure keeps of the world -/
theorem search_any (cb : Array Value) (n : Nat) (p : Nat → Bool) (I : World → Prop) (w : World) (hn : n ≤ 10000) (hI : I w)
    (hf : ∀ (i : Nat) (W : World), i < n → I W → Calls Tryz.prog 79 (#[.int .i64 i] ++ cb) W fun e w' => e = .returned (.bool (p i)) ∧ I w')
    (hmono : ∀ a b, a ≤ b → b < n → p a = true → p b = true) :
    Calls Tryz.prog 78 #[.int .i64 n, .func (.func 79) #[] cb] w fun e w' => ∃ k : Nat, e = .returned (.int .i64 k) ∧ k ≤ n ∧ (∀ t, t < k → p t = false) ∧ (k < n → p k = true) ∧ I w' := by
  have HI := Lib.hid hI
  have HF := Lib.hid hf
  have HM := Lib.hid hmono
  clear hI hf hmono
  go_enter Tryz.func78, Tryz.ntmps78
  go_wp2_with fail
  go_loopw [5, 6] (fun lv hv wr => ∃ lo hi : Nat, lv = .int .i64 lo ∧ hv = .int .i64 hi ∧ lo ≤ hi ∧ hi ≤ n ∧ (∀ t, t < lo → p t = false) ∧ (∀ t, hi ≤ t → t < n → p t = true) ∧ I wr) (fun lv hv _ => (intOf hv).toNat - (intOf lv).toNat)
  case atStart => exact ⟨0, n, rfl, rfl, Nat.zero_le _, Nat.le_refl _, (fun t ht => absurd ht (Nat.not_lt_zero _)), (fun t h1 h2 => absurd h2 (by omega)), HI.out⟩
  case round =>
    clear HI
    obtain ⟨lo, hi, rfl, rfl, hlh, hin, h0, h1, hI⟩ := hrel
    have HK := Lib.hid (And.intro h0 (And.intro h1 hI))
    clear h0 h1 hI
    by_cases hlt : lo < hi
    · obtain ⟨m, hm⟩ : ∃ m, (lo + hi) / 2 = m := ⟨_, rfl⟩
      have hmI : ((lo : Int) + hi) / 2 = (m : Int) := by omega
      have m1 : lo ≤ m := by omega
      have m2 : m < hi := by omega
      have CF := Lib.hid (HF.out m wr (by omega) HK.out.2.2)
      clear hm
      cases hp : p m with
      | true =>
        rw [hp] at CF
        have HK2 := Lib.hid (show ∀ t, m ≤ t → t < n → p t = true from fun t ht htn => HM.out m t ht htn hp)
        clear hp
        go_wp2_with fail
        refine Calls.mono CF.out ?_
        rintro e w' ⟨rfl, hI⟩
        have HI2 := Lib.hid hI
        clear hI
        go_wp2_with fail
        refine ⟨⟨lo, m, rfl, rfl, m1, by omega, HK.out.1, HK2.out, HI2.out⟩, by simp [intOf]; omega⟩
      | false =>
        rw [hp] at CF
        have HK2 := Lib.hid (show ∀ t, t < m + 1 → p t = false from fun t ht => by
          cases h : p t with
          | false => rfl
          | true =>
            have := HM.out t m (by omega) (by omega) h
            rw [hp] at this
            cases this)
        clear hp
        go_wp2_with fail
        refine Calls.mono CF.out ?_
        rintro e w' ⟨rfl, hI⟩
        have HI2 := Lib.hid hI
        clear hI
        go_wp2_with fail
        refine ⟨⟨m + 1, hi, by first | rfl | go_num, rfl, by omega, hin, HK2.out, HK.out.2.1, HI2.out⟩, by simp [intOf]; omega⟩
    · obtain rfl : lo = hi := by omega
      go_wp2_with fail
      go_ret
      exact ⟨lo, rfl, hin, HK.out.1, (fun h => HK.out.2.1 lo (Nat.le_refl _) h), HK.out.2.2⟩
end Go.Proofs.YtjhnfejlkljkjaaGreatDoor
