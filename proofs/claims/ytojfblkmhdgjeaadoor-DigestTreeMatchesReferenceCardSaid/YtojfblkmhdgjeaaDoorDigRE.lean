/- The reference's extensions. -/
import Derived.Test.YtojfblkmhdgjeaaDoorDigRD
import Derived.Deep.RegionHeld3
namespace Go.Proofs.YtojfblkmhdgjeaaDoor
open Go.RowKit Go.Shelf

def partS (xs : List ByteArray) (m : Nat) (wh : Bool) : List ByteArray := (if (wh && wholeN xs.length m) = true then [] else [firstS xs m]) ++ restS xs m
theorem partS_end (xs : List ByteArray) (wh : Bool) : partS xs xs.length wh = if wh = true then [] else [rootS xs] := by
  unfold partS
  rw [wholeN_end (Nat.le_refl _), firstS_end (Nat.le_refl _), restS_end (Nat.le_refl _)]
  cases wh <;> rfl
theorem partS_left {xs : List ByteArray} {m : Nat} {wh : Bool} (h1 : 1 ≤ m) (h : m < xs.length) (hk : m ≤ splitN xs.length) : partS xs m wh = partS (xs.take (splitN xs.length)) m wh ++ [rootS (xs.drop (splitN xs.length))] := by
  have hl : (xs.take (splitN xs.length)).length = splitN xs.length := by
    have := splitN_lt (n := xs.length) (by omega)
    rw [List.length_take]; omega
  unfold partS
  rw [hl, wholeN_left h1 h hk, firstS_left h1 h hk, restS_left h1 h hk, List.append_assoc]
theorem partS_right {xs : List ByteArray} {m : Nat} {wh : Bool} (h1 : 1 ≤ m) (h : m < xs.length) (hk : ¬ m ≤ splitN xs.length) : partS xs m wh = partS (xs.drop (splitN xs.length)) (m - splitN xs.length) false ++ [rootS (xs.take (splitN xs.length))] := by
  unfold partS
  rw [wholeN_right h1 h hk, firstS_right h1 h hk, restS_right h1 h hk, Bool.and_false, Bool.false_and, List.append_assoc]
theorem partS_ext (xs : List ByteArray) (m : Nat) (h : m ≠ 0) : partS xs m true = extS xs m := by
  unfold partS extS
  rw [if_neg h, Bool.true_and]
theorem partS_len : ∀ (N : Nat) (xs : List ByteArray) (m : Nat) (wh : Bool), xs.length = N → 1 ≤ m → m ≤ N → (partS xs m wh).length ≤ N + 1 := by
  intro N
  induction N using Nat.strongRecOn with
  | ind N ih =>
    intro xs m wh hN h1 hm
    subst hN
    by_cases he : m = xs.length
    · subst he
      rw [partS_end]
      split <;> simp
    · have hlt : m < xs.length := by omega
      have k1 := splitN_lt (n := xs.length) (by omega)
      have k0 := splitN_pos xs.length
      by_cases hk : m ≤ splitN xs.length
      · rw [partS_left h1 hlt hk, List.length_append]
        have := ih (splitN xs.length) k1 (xs.take (splitN xs.length)) m wh (by rw [List.length_take]; omega) h1 hk
        simp
        omega
      · rw [partS_right h1 hlt hk, List.length_append]
        have := ih (xs.length - splitN xs.length) (by omega) (xs.drop (splitN xs.length)) (m - splitN xs.length) false (by rw [List.length_drop]) (by omega) (by omega)
        simp
        omega

set_option maxRecDepth 100000 in
set_option maxHeartbeats 2000000 in
theorem refPart_any : ∀ (N : Nat) (xs : List ByteArray) (o : Option Addr) (c m : Nat) (wh : Bool) (w : World), xs.length = N → 1 ≤ m → m ≤ N → N ≤ 2 ^ 30 → StrSl w o xs → N ≤ c → c ≤ 9223372036854775807 → (∀ x ∈ xs, x.size ≤ 2 ^ 38) →
    Calls Tryd.prog 51 #[.slice o N c, .int .i64 m, .bool wh] w fun e w' => ∃ v, e = .returned v ∧ OwnS w' w.heap.size v (partS xs m wh) ∧ Below w.heap.size w w' := by
  intro N
  induction N using Nat.strongRecOn with
  | ind N ih =>
    intro xs o c m wh w hN h1 hmN h30 hS hNc hc hx
    by_cases he : m = N
    · subst hN
      subst he
      rw [partS_end]
      cases wh with
      | true =>
        rw [if_pos rfl]
        have HF := Lib.hid (And.intro (ownS_nil w w.heap.size) (Below.refl w.heap.size w))
        clear ih hS hx
        go_enter Tryd.func51, Tryd.ntmps51
        go_wp2_with fail
        go_ret
        exact ⟨_, rfl, HF.out⟩
      | false =>
        rw [if_neg (by simp)]
        have C2 := Lib.hid (refRoot_any xs.length xs o c w rfl hS hNc hc hx)
        clear ih hS hx
        generalize rootS xs = r at *
        go_enter Tryd.func51, Tryd.ntmps51
        go_wp2_with fail
        with_reducible refine Calls.mono C2.out ?_
        rintro e w4 ⟨rfl, hb⟩
        have HB := Lib.hid hb
        have hB4 := hb.size
        clear hb
        go_wp2_with fail
        go_ret
        exact ⟨_, rfl, madeS_one w4 r hB4 rfl, HB.out.alloc hB4 _⟩
    · subst hN
      have hlt : m < xs.length := by omega
      have h2 : 2 ≤ xs.length := by omega
      have k1 := splitN_lt h2
      have k0 := splitN_pos xs.length
      rcases hS with h | ⟨b, off, rfl, hl, hcell⟩
      · rw [h] at h2; simp at h2
      have HSL := Lib.hid (show StrSl w (some ⟨b, off, none⟩) xs from .inr ⟨b, off, rfl, hl, hcell⟩)
      have CP := Lib.hid (fun w => refLeft_any xs.length w h2 (by omega))
      have hpl := partS_len xs.length xs m wh rfl h1 hmN
      have dn : decide ((m : Int) = (xs.length : Nat)) = false := by simp; omega
      have dm : ¬ (m : Int) = (xs.length : Nat) := by omega
      have h00 : Below w.heap.size w w.drew := (Below.refl _ _).drew
      by_cases hik : m ≤ splitN xs.length
      · have HP := Lib.hid (partS_left (wh := wh) h1 hlt hik)
        have C1 := Lib.hid (fun (W : World) (hb : Below w.heap.size w W) => ih (splitN xs.length) k1 (xs.take (splitN xs.length)) (some ⟨b, off, none⟩) c m wh W (by rw [List.length_take]; omega) h1 hik (by omega) (takeSl _ (HSL.out.next hb)) (by omega) hc (fun x h => hx x (List.mem_of_mem_take h)))
        have C2 := Lib.hid (fun (W : World) (hb : Below w.heap.size w W) => refRoot_any (xs.length - splitN xs.length) (xs.drop (splitN xs.length)) (some ⟨b, off + splitN xs.length, none⟩) (c - splitN xs.length) W (by rw [List.length_drop]) (drop_sl _ (HSL.out.next hb)) (by omega) (by omega) (fun x h => hx x (List.mem_of_mem_drop h)))
        rw [HP.out]
        rw [HP.out, List.length_append] at hpl
        generalize partS (xs.take (splitN xs.length)) m wh = P at *
        generalize rootS (xs.drop (splitN xs.length)) = r at *
        have d1 : decide ((m : Int) ≤ (splitN xs.length : Nat)) = true := by simp; omega
        clear HSL hcell ih hx HP
        have hpl2 : P.length ≤ 2 ^ 31 := by omega
        clear hpl
        generalize splitN xs.length = K at *
        generalize xs.length = N at *
        have q0 : (0 : Int) ≤ (K : Int) := by omega
        have q1 : (K : Int) ≤ (c : Int) := by omega
        have q2 : (K : Int) ≤ (N : Int) := by omega
        have q3 : ¬ c = K := by omega
        go_enter Tryd.func51, Tryd.ntmps51
        go_wp2_with fail
        with_reducible refine Calls.mono (CP.out _) ?_
        rintro e w2 ⟨rfl, rfl⟩
        go_upto_region 7 with (fail)
        first | (go_region_held3 (fun _ => True) (trivial) (first
          | (go_at_call 51; with_reducible refine Calls.mono (C1.out _ (by assumption)) ?_; rintro e wa ⟨v, rfl, ho, hb⟩; have HA := Lib.hid (And.intro (ho.lower (show w.heap.size ≤ _ from h00.size)) (Below.andThen h00 hb)); clear ho hb)
          | (go_at_call 28; with_reducible refine Calls.mono (C2.out _ HA.out.2) ?_; rintro e wb ⟨rfl, hb⟩; have HB := Lib.hid (And.intro (HA.out.1.next hb) (Below.andThen HA.out.2 hb)); have hB4 := HB.out.2.size; clear hb)
          | (refine step_append_strs rfl (.tmp 27) (.tmp 32) rfl rfl w.heap.size v P rfl (HB.out.1.next ((Below.refl _ _).alloc (Nat.le_refl _) _)) (some ⟨wb.heap.size, 0, none⟩) 1 [r] rfl rfl (oneSl _ _ _ rfl) (by omega) (by simp; omega) ?_; intro v' wc hown' hgrow; have K2 := Lib.hid (And.intro hown' ((HB.out.2.alloc hB4 _).grown hgrow (by simp; omega) (own_block HB.out.1))); clear hown' hgrow))) | fail
        go_wp2_with fail
        go_ret
        exact ⟨_, rfl, K2.out⟩
      · have HP := Lib.hid (partS_right (wh := wh) h1 hlt hik)
        have C1 := Lib.hid (fun (W : World) (hb : Below w.heap.size w W) => ih (xs.length - splitN xs.length) (by omega) (xs.drop (splitN xs.length)) (some ⟨b, off + splitN xs.length, none⟩) (c - splitN xs.length) (m - splitN xs.length) false W (by rw [List.length_drop]) (by omega) (by omega) (by omega) (drop_sl _ (HSL.out.next hb)) (by omega) (by omega) (fun x h => hx x (List.mem_of_mem_drop h)))
        have C2 := Lib.hid (fun (W : World) (hb : Below w.heap.size w W) => refRoot_any (splitN xs.length) (xs.take (splitN xs.length)) (some ⟨b, off, none⟩) c W (by rw [List.length_take]; omega) (takeSl _ (HSL.out.next hb)) (by omega) hc (fun x h => hx x (List.mem_of_mem_take h)))
        rw [HP.out]
        rw [HP.out, List.length_append] at hpl
        rw [show ((m - splitN xs.length : Nat) : Int) = (m : Int) - (splitN xs.length : Nat) by omega] at C1
        generalize partS (xs.drop (splitN xs.length)) (m - splitN xs.length) false = P at *
        generalize rootS (xs.take (splitN xs.length)) = r at *
        have d1 : decide ((m : Int) ≤ (splitN xs.length : Nat)) = false := by simp; omega
        clear HSL hcell ih hx HP
        have hpl2 : P.length ≤ 2 ^ 31 := by omega
        clear hpl
        generalize splitN xs.length = K at *
        generalize xs.length = N at *
        have q0 : (0 : Int) ≤ (K : Int) := by omega
        have q1 : (K : Int) ≤ (c : Int) := by omega
        have q2 : (K : Int) ≤ (N : Int) := by omega
        have q3 : ¬ c = K := by omega
        have wI : IntKind.i64.wrap ((m : Int) - (K : Int)) = (m : Int) - (K : Int) := by simp [IntKind.wrap, IntKind.bits, IntKind.signed]; omega
        go_enter Tryd.func51, Tryd.ntmps51
        go_wp2_with fail
        with_reducible refine Calls.mono (CP.out _) ?_
        rintro e w2 ⟨rfl, rfl⟩
        go_upto_region 8 with (fail)
        first | (go_region_held3 (fun _ => True) (trivial) (first
          | (go_at_call 51; with_reducible refine Calls.mono (C1.out _ (by assumption)) ?_; rintro e wa ⟨v, rfl, ho, hb⟩; have HA := Lib.hid (And.intro (ho.lower (show w.heap.size ≤ _ from h00.size)) (Below.andThen h00 hb)); clear ho hb)
          | (go_at_call 28; with_reducible refine Calls.mono (C2.out _ HA.out.2) ?_; rintro e wb ⟨rfl, hb⟩; have HB := Lib.hid (And.intro (HA.out.1.next hb) (Below.andThen HA.out.2 hb)); have hB4 := HB.out.2.size; clear hb)
          | (refine step_append_strs rfl (.tmp 40) (.tmp 45) rfl rfl w.heap.size v P rfl (HB.out.1.next ((Below.refl _ _).alloc (Nat.le_refl _) _)) (some ⟨wb.heap.size, 0, none⟩) 1 [r] rfl rfl (oneSl _ _ _ rfl) (by omega) (by simp; omega) ?_; intro v' wc hown' hgrow; have K2 := Lib.hid (And.intro hown' ((HB.out.2.alloc hB4 _).grown hgrow (by simp; omega) (own_block HB.out.1))); clear hown' hgrow))) | fail
        go_wp2_with fail
        go_ret
        exact ⟨_, rfl, K2.out⟩

theorem refExtension_out (o : Option Addr) (n c : Nat) (i : Int) (w : World) (h : i < 0 ∨ (n : Int) < i) : Calls Tryd.prog 25 #[.slice o n c, .int .i64 i] w fun e w' => e = .returned (.tuple #[.slice none 0 0, .int .i64 2]) ∧ w = w' := by
  by_cases h1 : i < 0
  · have d1 : decide (i < 0) = true := by simpa using h1
    go_enter Tryd.func25, Tryd.ntmps25
    go_wp2
    go_ret2
    exact ⟨rfl, rfl⟩
  · have d1 : decide (i < 0) = false := by simpa using h1
    have d2 : decide ((n : Int) < i) = true := by simp; omega
    go_enter Tryd.func25, Tryd.ntmps25
    go_wp2
    go_ret2
    exact ⟨rfl, rfl⟩
set_option maxHeartbeats 400000 in
theorem refExtension_in (xs : List ByteArray) (o : Option Addr) (c m : Nat) (w : World) (hS : StrSl w o xs) (hN : xs.length ≤ c) (hc : c ≤ 9223372036854775807) (hxs : xs.length ≤ 2 ^ 30) (hx : ∀ x ∈ xs, x.size ≤ 2 ^ 38) (hm : m ≤ xs.length) :
    Calls Tryd.prog 25 #[.slice o xs.length c, .int .i64 m] w fun e w' => ∃ v, e = .returned (.tuple #[v, .int .i64 0]) ∧ OwnS w' w.heap.size v (extS xs m) ∧ Below w.heap.size w w' := by
  have d0 : decide ((m : Int) < 0) = false := by simp
  have d2 : decide (((xs.length : Nat) : Int) < (m : Int)) = false := by simp; omega
  by_cases h0 : m = 0
  · subst h0
    have e : extS xs 0 = [] := by simp [extS]
    rw [e]
    have HF := Lib.hid (And.intro (ownS_nil w w.heap.size) (Below.refl w.heap.size w))
    clear hS hx
    go_enter Tryd.func25, Tryd.ntmps25
    go_wp2_with fail
    go_ret2
    exact ⟨_, rfl, HF.out⟩
  · have d3 : decide ((m : Int) = 0) = false := by simp; omega
    have C1 := Lib.hid (refPart_any xs.length xs o c m true w rfl (by omega) hm hxs hS hN hc hx)
    rw [partS_ext _ _ h0] at C1
    clear hS hx
    generalize extS xs m = P at *
    go_enter Tryd.func25, Tryd.ntmps25
    go_wp2_with fail
    with_reducible refine Calls.mono C1.out ?_
    rintro e wa ⟨v, rfl, ho, hb⟩
    have HA := Lib.hid (And.intro ho hb)
    clear ho hb
    go_wp2_with fail
    go_ret2
    exact ⟨_, rfl, HA.out⟩
end Go.Proofs.YtojfblkmhdgjeaaDoor
