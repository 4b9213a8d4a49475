/- The reference's roots, proofs and extensions. -/
import Derived.Test.YtojfblkmhdgjeaaDoorDigRC
import Derived.Test.YtojfblkmhdgjeaaDoorDigX2
namespace Go.Proofs.YtojfblkmhdgjeaaDoor
open Go.RowKit Go.Shelf

theorem oneSl (w : World) (r : ByteArray) (t : TypeId) {n : Nat} (hn : w.heap.size = n) : StrSl (w.alloc (.cells #[.string r] t)) (some ⟨n, 0, none⟩) [r] := by
  subst hn
  exact .inr ⟨_, 0, rfl, (Row.new w t [.string r]).lt, (Row.new w t [.string r]).str (xs := [r])⟩
theorem takeSl {w : World} {b off : Nat} {xs : List ByteArray} (k : Nat) (h : StrSl w (some ⟨b, off, none⟩) xs) : StrSl w (some ⟨b, off, none⟩) (xs.take k) := by
  rcases h with rfl | ⟨b', off', e, hl, hc⟩
  · exact .inl (by simp)
  · exact .inr ⟨b', off', e, hl, fun j x hx => hc j x (by rw [List.getElem?_take] at hx; split at hx <;> simp_all)⟩

set_option maxRecDepth 100000 in
set_option maxHeartbeats 1000000 in
theorem refRoot_any : ∀ (N : Nat) (xs : List ByteArray) (o : Option Addr) (c : Nat) (w : World), xs.length = N → StrSl w o xs → N ≤ c → c ≤ 9223372036854775807 → (∀ x ∈ xs, x.size ≤ 2 ^ 38) →
    Calls Tryd.prog 28 #[.slice o N c] w fun e w' => e = .returned (.string (rootS xs)) ∧ Below w.heap.size w w' := by
  intro N
  induction N using Nat.strongRecOn with
  | ind N ih =>
    intro xs o c w hN hS hNc hc hx
    match xs, hN with
    | [], hN =>
      obtain rfl : N = 0 := hN.symm
      have CS := Lib.hid (refSum_any ⟨#[]⟩ w (by decide))
      clear ih hS hx
      go_enter Tryd.func28, Tryd.ntmps28
      go_wp2_with fail
      refine CS.out.mono ?_
      rintro e w3 ⟨rfl, hb⟩
      have HB2 := Lib.hid hb
      clear hb
      go_wp2
      go_ret
      exact ⟨rfl, HB2.out⟩
    | [x], hN =>
      obtain rfl : N = 1 := hN.symm
      rcases hS with h | ⟨b, off, rfl, hl, hcell⟩
      · cases h
      have hc0 := hcell 0 x rfl
      rw [Nat.add_zero] at hc0
      have CS := Lib.hid (refLeaf_any x w (hx x (by simp)))
      clear ih hx hcell
      go_enter Tryd.func28, Tryd.ntmps28
      go_wp2_with fail
      refine CS.out.mono ?_
      rintro e w3 ⟨rfl, hb⟩
      have HB2 := Lib.hid hb
      clear hb
      go_wp2
      go_ret
      exact ⟨rfl, HB2.out⟩
    | x :: y :: r, hN =>
      have h2 : 2 ≤ (x :: y :: r).length := by simp
      generalize x :: y :: r = xs at *
      rcases hS with h | ⟨b, off, rfl, hl, hcell⟩
      · rw [h] at h2; simp at h2
      subst hN
      have h1 := splitN_lt h2
      have h0 := splitN_pos xs.length
      have CP := Lib.hid (fun w => refLeft_any xs.length w h2 (by omega))
      have HSL := Lib.hid (show StrSl w (some ⟨b, off, none⟩) xs from .inr ⟨b, off, rfl, hl, hcell⟩)
      have C1 := Lib.hid (fun (k : Kin w) => ih (splitN xs.length) h1 (xs.take (splitN xs.length)) (some ⟨b, off, none⟩) c k.it (by rw [List.length_take]; omega)
        (takeSl _ (HSL.out.next k.below)) (by omega) hc (fun x h => hx x (List.mem_of_mem_take h)))
      have C2 := Lib.hid (fun (k : Kin w) => ih (xs.length - splitN xs.length) (by omega) (xs.drop (splitN xs.length)) (some ⟨b, off + splitN xs.length, none⟩) (c - splitN xs.length) k.it (by rw [List.length_drop])
        (drop_sl _ (HSL.out.next k.below)) (by omega) (by omega) (fun x h => hx x (List.mem_of_mem_drop h)))
      have z1 := rootS_size (xs.take (splitN xs.length))
      have z2 := rootS_size (xs.drop (splitN xs.length))
      have CN := Lib.hid (fun (k : Kin w) => refNode_any (rootS (xs.take (splitN xs.length))) (rootS (xs.drop (splitN xs.length))) k.it (by omega) (by omega))
      rw [← rootS_split h2] at CN
      clear HSL
      generalize rootS (xs.take (splitN xs.length)) = r1 at *
      generalize rootS (xs.drop (splitN xs.length)) = r2 at *
      generalize rootS xs = rr at *
      generalize hK : splitN xs.length = K at *
      generalize xs.length = N at *
      clear z1 z2 hx ih hcell hK
      have d0 : decide ((N : Int) = 0) = false := by simp; omega
      have d1 : decide ((N : Int) = 1) = false := by simp; omega
      go_enter Tryd.func28, Tryd.ntmps28
      go_wp2_with fail
      refine (CP.out _).mono ?_
      rintro e w' ⟨rfl, rfl⟩
      clear CP
      go_wp2_with fail
      refine wp_region_kin (by kernel_rfl) (by kernel_rfl) w.heap.size 0 (by simp) (fun hk => ?_)
      repeat (go_big_quiet_step (first | (go_at_call 28; first | with_reducible exact Calls.kin (C1.out _) | with_reducible exact Calls.kin (C2.out _)) | (go_at_call 18; with_reducible exact Calls.kin (CN.out _))))
      refine wpQuiet_nil ?_
      clear hk
      intro w2 hb
      have HB2 := Lib.hid hb
      clear hb
      go_wp2
      go_ret
      exact ⟨rfl, HB2.out⟩

/-! ### proofs -/
theorem refProof_out (o : Option Addr) (n c : Nat) (i : Int) (w : World) (h : i < 0 ∨ (n : Int) ≤ i) : Calls Tryd.prog 23 #[.slice o n c, .int .i64 i] w fun e w' => e = .returned (.tuple #[.slice none 0 0, .int .i64 2]) ∧ w = w' := by
  by_cases h1 : i < 0
  · have d1 : decide (i < 0) = true := by simpa using h1
    go_enter Tryd.func23, Tryd.ntmps23
    go_wp2
    go_ret2
    exact ⟨rfl, rfl⟩
  · have d1 : decide (i < 0) = false := by simpa using h1
    have d2 : decide ((n : Int) ≤ i) = true := by simp; omega
    go_enter Tryd.func23, Tryd.ntmps23
    go_wp2
    go_ret2
    exact ⟨rfl, rfl⟩
theorem ownS_nil (w : World) (B : Nat) : OwnS w B (.slice none 0 0) [] := World.ownsRow_nil _ _ _ _
set_option maxRecDepth 100000 in
set_option maxHeartbeats 2000000 in
theorem refProof_any : ∀ (N : Nat) (xs : List ByteArray) (o : Option Addr) (c i : Nat) (w : World), xs.length = N → i < N → N ≤ 2 ^ 30 → StrSl w o xs → N ≤ c → c ≤ 9223372036854775807 → (∀ x ∈ xs, x.size ≤ 2 ^ 38) →
    Calls Tryd.prog 23 #[.slice o N c, .int .i64 i] w fun e w' => ∃ v, e = .returned (.tuple #[v, .int .i64 0]) ∧ OwnS w' w.heap.size v (proofS xs i) ∧ Below w.heap.size w w' := by
  intro N
  induction N using Nat.strongRecOn with
  | ind N ih =>
    intro xs o c i w hN hi h30 hS hNc hc hx
    have d0 : decide ((i : Int) < 0) = false := by simp
    have dn : ¬ N ≤ i := by omega
    by_cases h1 : N = 1
    · subst h1
      have HE := Lib.hid (show proofS xs i = [] from proofS_one (by omega) i)
      rw [HE.out]
      have HF := Lib.hid (And.intro (ownS_nil w w.heap.size) (Below.refl w.heap.size w))
      obtain rfl : i = 0 := by omega
      clear ih hS hx HE
      go_enter Tryd.func23, Tryd.ntmps23
      go_wp2_with fail
      go_ret2
      exact ⟨_, rfl, HF.out⟩
    · subst hN
      have h2 : 2 ≤ xs.length := by omega
      have k1 := splitN_lt h2
      have k0 := splitN_pos xs.length
      rcases hS with h | ⟨b, off, rfl, hl, hcell⟩
      · rw [h] at h2; simp at h2
      have HSL := Lib.hid (show StrSl w (some ⟨b, off, none⟩) xs from .inr ⟨b, off, rfl, hl, hcell⟩)
      have CP := Lib.hid (fun w => refLeft_any xs.length w h2 (by omega))
      have hp : ∀ j, (proofS xs j).length ≤ 2 ^ 30 + 1 := fun j => by
        rw [proofS_len]
        have := sidesN_len xs.length xs.length j (Nat.le_of_lt Nat.lt_two_pow_self)
        omega
      by_cases hik : i < splitN xs.length
      · have HP := Lib.hid (proofS_left h2 hik)
        have C1 := Lib.hid (ih (splitN xs.length) k1 (xs.take (splitN xs.length)) (some ⟨b, off, none⟩) c i w (by rw [List.length_take]; omega) hik (by omega) (takeSl _ HSL.out) (by omega) hc (fun x h => hx x (List.mem_of_mem_take h)))
        have C2 := Lib.hid (fun (W : World) (hb : Below w.heap.size w W) => refRoot_any (xs.length - splitN xs.length) (xs.drop (splitN xs.length)) (some ⟨b, off + splitN xs.length, none⟩) (c - splitN xs.length) W (by rw [List.length_drop]) (drop_sl _ (HSL.out.next hb)) (by omega) (by omega) (fun x h => hx x (List.mem_of_mem_drop h)))
        have hpl : (proofS (xs.take (splitN xs.length)) i).length ≤ 2 ^ 31 := by
          have h1 := hp i
          rw [HP.out, List.length_append] at h1
          omega
        rw [HP.out]
        generalize proofS (xs.take (splitN xs.length)) i = P at *
        generalize rootS (xs.drop (splitN xs.length)) = r at *
        have d1 : decide ((i : Int) < (splitN xs.length : Nat)) = true := by simp; omega
        clear HSL hcell ih hx hp HP
        generalize splitN xs.length = K at *
        generalize xs.length = N at *
        go_enter Tryd.func23, Tryd.ntmps23
        go_wp2_with fail
        with_reducible refine Calls.mono (CP.out _) ?_
        rintro e w2 ⟨rfl, rfl⟩
        go_wp2_with fail
        with_reducible refine Calls.mono C1.out ?_
        rintro e w3 ⟨v, rfl, ho, hb⟩
        have HA := Lib.hid (And.intro ho hb)
        clear ho hb
        go_wp2_with fail
        with_reducible refine Calls.mono (C2.out _ HA.out.2) ?_
        rintro e w4 ⟨rfl, hb⟩
        have HB := Lib.hid (And.intro (HA.out.1.next hb) (Below.andThen HA.out.2 hb))
        clear hb HA
        have hB4 := HB.out.2.size
        go_wp2_with (at_builtin; refine wpList_append_strs rfl _ _ rfl rfl w.heap.size v P rfl (HB.out.1.next ((Below.refl _ _).alloc (Nat.le_refl _) _)) (some ⟨w4.heap.size, 0, none⟩) 1 1 [r] rfl rfl (fun h => by cases h) (oneSl _ _ _ rfl) (by omega) (by simp; omega) ?_; intro v' w5 hown' hgrow; have K2 := Lib.hid (And.intro hown' ((HB.out.2.alloc hB4 _).grown hgrow (by simp; omega) (own_block HB.out.1))); clear hown' hgrow)
        go_ret2
        exact ⟨_, rfl, K2.out⟩
      · have HP := Lib.hid (proofS_right h2 hik)
        have C1 := Lib.hid (ih (xs.length - splitN xs.length) (by omega) (xs.drop (splitN xs.length)) (some ⟨b, off + splitN xs.length, none⟩) (c - splitN xs.length) (i - splitN xs.length) w (by rw [List.length_drop]) (by omega) (by omega) (drop_sl _ HSL.out) (by omega) (by omega) (fun x h => hx x (List.mem_of_mem_drop h)))
        have C2 := Lib.hid (fun (W : World) (hb : Below w.heap.size w W) => refRoot_any (splitN xs.length) (xs.take (splitN xs.length)) (some ⟨b, off, none⟩) c W (by rw [List.length_take]; omega) (takeSl _ (HSL.out.next hb)) (by omega) hc (fun x h => hx x (List.mem_of_mem_take h)))
        have hpl : (proofS (xs.drop (splitN xs.length)) (i - splitN xs.length)).length ≤ 2 ^ 31 := by
          have h1 := hp i
          rw [HP.out, List.length_append] at h1
          omega
        rw [HP.out]
        rw [show ((i - splitN xs.length : Nat) : Int) = (i : Int) - (splitN xs.length : Nat) by omega] at C1
        generalize proofS (xs.drop (splitN xs.length)) (i - splitN xs.length) = P at *
        generalize rootS (xs.take (splitN xs.length)) = r at *
        have d1 : decide ((i : Int) < (splitN xs.length : Nat)) = false := by simp; omega
        clear HSL hcell ih hx hp HP
        generalize splitN xs.length = K at *
        generalize xs.length = N at *
        go_enter Tryd.func23, Tryd.ntmps23
        go_wp2_with fail
        with_reducible refine Calls.mono (CP.out _) ?_
        rintro e w2 ⟨rfl, rfl⟩
        go_wp2_with fail
        with_reducible refine Calls.mono C1.out ?_
        rintro e w3 ⟨v, rfl, ho, hb⟩
        have HA := Lib.hid (And.intro ho hb)
        clear ho hb
        go_wp2_with fail
        with_reducible refine Calls.mono (C2.out _ HA.out.2) ?_
        rintro e w4 ⟨rfl, hb⟩
        have HB := Lib.hid (And.intro (HA.out.1.next hb) (Below.andThen HA.out.2 hb))
        clear hb HA
        have hB4 := HB.out.2.size
        go_wp2_with (at_builtin; refine wpList_append_strs rfl _ _ rfl rfl w.heap.size v P rfl (HB.out.1.next ((Below.refl _ _).alloc (Nat.le_refl _) _)) (some ⟨w4.heap.size, 0, none⟩) 1 1 [r] rfl rfl (fun h => by cases h) (oneSl _ _ _ rfl) (by omega) (by simp; omega) ?_; intro v' w5 hown' hgrow; have K2 := Lib.hid (And.intro hown' ((HB.out.2.alloc hB4 _).grown hgrow (by simp; omega) (own_block HB.out.1))); clear hown' hgrow)
        go_ret2
        exact ⟨_, rfl, K2.out⟩
end Go.Proofs.YtojfblkmhdgjeaaDoor
