/- Extension. -/
import Derived.Test.YtojfblkmhdgjeaaDoorDigH
import Derived.Test.YtojfblkmhdgjeaaDoorDigQ
namespace Go.Proofs.YtojfblkmhdgjeaaDoor
open Go.RowKit Go.Shelf

theorem Extension_out (o : Option Addr) (n c : Nat) (i : Int) (w : World) (h : i < 0 ∨ (n : Int) < i) : Calls Tryd.prog 24 #[.slice o n c, .int .i64 i] w fun e w' => e = .returned (.tuple #[.slice none 0 0, .int .i64 2]) ∧ w = w' := by
  by_cases h1 : i < 0
  · have d1 : decide (i < 0) = true := by simpa using h1
    go_enter Tryd.func24, Tryd.ntmps24
    go_wp2
    go_ret2
    exact ⟨rfl, rfl⟩
  · have d1 : decide (i < 0) = false := by simpa using h1
    have d2 : decide ((n : Int) < i) = true := by simp; omega
    go_enter Tryd.func24, Tryd.ntmps24
    go_wp2
    go_ret2
    exact ⟨rfl, rfl⟩
theorem Extension_none (o : Option Addr) (n c : Nat) (w : World) : Calls Tryd.prog 24 #[.slice o n c, .int .i64 0] w fun e w' => e = .returned (.tuple #[.slice none 0 0, .int .i64 0]) ∧ w = w' := by
  have d2 : decide ((n : Int) < 0) = false := by simp
  go_enter Tryd.func24, Tryd.ntmps24
  go_wp2
  go_ret2
  exact ⟨rfl, rfl⟩

set_option maxRecDepth 100000 in
set_option maxHeartbeats 2000000 in
theorem Extension_any (xs : List ByteArray) (o : Option Addr) (c i : Nat) (w : World) (T : Tab w) (hS : StrSl w o xs) (hN : xs.length ≤ c) (hc : c ≤ 9223372036854775807) (hxs : xs.length ≤ 2 ^ 40) (hx : ∀ x ∈ xs, x.size ≤ 2 ^ 38) (hi1 : 1 ≤ i) (hi : i ≤ xs.length) :
    Calls Tryd.prog 24 #[.slice o xs.length c, .int .i64 i] w fun e w' => ∃ o', e = .returned (.tuple #[.slice o' (extS xs i).length (extS xs i).length, .int .i64 0]) ∧ StrSl w' o' (extS xs i) ∧ Below w.heap.size w w' := by
  obtain ⟨i0, hi0, hz0, hz1, hz2⟩ := info_parts infoStr
  have HT := Lib.hid T
  have HX := Lib.hid hx
  have HS := Lib.hid hS
  have d1 : decide ((i : Int) < 0) = false := by simp
  have d2 : decide (xs.length < i) = false := by simp; omega
  have d0 : decide ((i : Int) = 0) = false := by simp; omega
  have d0' : ((i : Int) == 0) = false := by simp; omega
  obtain ⟨RX, hRX⟩ : ∃ RX, RX = restS xs i := ⟨_, rfl⟩
  obtain ⟨FX, hFX⟩ : ∃ FX, FX = firstS xs i := ⟨_, rfl⟩
  obtain ⟨WX, hWX⟩ : ∃ WX, WX = wholeN xs.length i := ⟨_, rfl⟩
  have hE : extS xs i = (if WX then [] else [FX]) ++ RX := by unfold extS; rw [if_neg (by omega), hRX, hFX, hWX]
  obtain ⟨PR, hPR⟩ : ∃ PR, PR = extS xs i := ⟨_, rfl⟩
  rw [← hPR] at hE ⊢
  have HPR := Lib.hid hE
  have HR := Lib.hid (And.intro hRX (And.intro hFX hWX))
  clear T hx hS hPR hE hRX hFX hWX
  go_enter Tryd.func24, Tryd.ntmps24
  go_wp2
  clear d1 d2 d0 d0'
  go_loopw [6, 7, 0, 1] (fun v whv l j wr => ∃ (V : Value) (ys acc : List ByteArray) (o : Option Addr) (c k : Nat) (wh : Bool), V = v ∧ whv = .bool wh ∧ l = .slice o ys.length c ∧ j = .int .i64 k ∧ 1 ≤ k ∧ k ≤ ys.length ∧ ys.length ≤ c ∧ c ≤ 9223372036854775807 ∧ StrSl w o ys ∧ (∀ x ∈ ys, x.size ≤ 2 ^ 38) ∧
      RX = restS ys k ++ acc.reverse ∧ FX = firstS ys k ∧ WX = (wh && wholeN ys.length k) ∧ acc.length + ys.length ≤ xs.length ∧ wr.ownsRow w.heap.size 9 1 v acc.length (acc.map strV) ∧ Below w.heap.size w wr)
    (fun _ _ l _ _ => match l with | .slice _ n _ => n | _ => 0)
  case atStart => exact ⟨_, xs, [], o, c, i, true, rfl, rfl, rfl, rfl, hi1, hi, hN, hc, HS.out, HX.out, by rw [HR.out.1]; simp, HR.out.2.1, by rw [HR.out.2.2]; rfl, by simp, World.ownsRow_nil _ _ _ _, Below.refl _ _⟩
  case round =>
    clear HR HS HX hi hi1 hN hc
    obtain ⟨V, ys, acc, o, c, k, wh, rfl, rfl, rfl, rfl, hk1, hk, hN, hc, hS, hx, hRX, hFX, hWX, hal, hown, hB⟩ := hrel
    by_cases hlt : k < ys.length
    · rcases hS with h | ⟨b, off, rfl, hl, hcell⟩
      · rw [h] at hlt; simp at hlt
      have h2 : 2 ≤ ys.length := by omega
      have h1 := splitN_lt h2
      have h0 := splitN_pos ys.length
      have d3 : decide (k < ys.length) = true := by simpa using hlt
      have CP := Lib.hid (fun w => split_any ys.length w h2 (by omega))
      by_cases hkl : k ≤ splitN ys.length
      · have d4 : decide ((k : Int) ≤ splitN ys.length) = true := by simp; omega
        have CR := Lib.hid (fun w' (hb : Below w.heap.size w w') => Root_any (ys.length - splitN ys.length) (ys.drop (splitN ys.length)) (some ⟨b, off + splitN ys.length, none⟩) (c - splitN ys.length) w' (by rw [List.length_drop]) (HT.out.next hb)
          (.inr ⟨b, off + splitN ys.length, rfl, Nat.lt_of_lt_of_le hl hb.size, fun j x hx => (hb.cell (p := ⟨b, _, none⟩) hl).trans (by rw [List.getElem?_drop] at hx; rw [Nat.add_assoc]; exact hcell _ x hx)⟩) (by omega) (by omega) (fun x h => hx x (List.mem_of_mem_drop h)))
        have HN := Lib.hid (show RX = restS (ys.take (splitN ys.length)) k ++ (acc ++ [rootS (ys.drop (splitN ys.length))]).reverse by rw [hRX, restS_left hk1 hlt hkl]; simp)
        have HF := Lib.hid (show FX = firstS (ys.take (splitN ys.length)) k by rw [hFX, firstS_left hk1 hlt hkl])
        have HW := Lib.hid (show WX = (wh && wholeN (splitN ys.length) k) by rw [hWX, wholeN_left hk1 hlt hkl])
        have HLT := Lib.hid (show (ys.take (splitN ys.length)).length = splitN ys.length by rw [List.length_take]; omega)
        have HS := Lib.hid (show StrSl w (some ⟨b, off, none⟩) (ys.take (splitN ys.length)) from .inr ⟨b, off, rfl, hl, fun j x hx => hcell j x (by rw [List.getElem?_take] at hx; split at hx <;> simp_all)⟩)
        have HX := Lib.hid (fun x (h : x ∈ ys.take (splitN ys.length)) => hx x (List.mem_of_mem_take h))
        have HO := Lib.hid (And.intro hown hB)
        generalize rootS (ys.drop (splitN ys.length)) = r at *
        generalize ys.take (splitN ys.length) = zs at *
        generalize splitN ys.length = K at *
        generalize ys.length = n at *
        clear hRX hFX hWX hx hown hB hcell
        have q1 : K ≤ n := by omega
        have q2 : K ≤ c := by omega
        have q3 : ¬ c = K := by omega
        go_wp2_with fail
        refine (CP.out _).mono ?_
        rintro e w' ⟨rfl, rfl⟩
        clear CP
        rename World => wr
        go_upto_region 10 with (fail)
        go_region_law (first
          | (go_simp; go_at_call 27; have hq := HO.out.2.drew; with_reducible refine Calls.mono (CR.out _ hq) ?_; clear hq; rintro e wx ⟨rfl, hb⟩; have HB1 := Lib.hid (Below.andThen (Below.refl wr.heap.size wr).drew hb); clear hb)
          | (refine step_append_lies _ rfl (.tmp 29) (.tmp 34) 26 rfl w.heap.size 9 i0 (.string ⟨#[]⟩) 1 16 Tryd.underlying26 hi0 hz0 hz1 hz2 rfl (by decide) V acc.length (acc.map strV) rfl ((below_own HO.out.1 HB1.out).alloc _) _ 1 1 [.string r] rfl rfl (cells_new _ _ _) (by simp [Value.oneCell']) (by decide) (by unfold maxLen; omega) (by omega) (by have := HO.out.2.size; have := HB1.out.size; simp; omega) _ rfl ?_; intro g cap w2 hown2 hgrow _ _; have HG := Lib.hid (And.intro hown2 hgrow); clear hown2 hgrow))
        go_simp
        go_wp2_with fail
        go_roundw
        case rel =>
          obtain ⟨hown2, hgrow⟩ := HG.out
          have hbx : Below w.heap.size w (wx.alloc (.cells #[.string r] 9)) := (HO.out.2.trans (HB1.out.mono HO.out.2.size)).alloc (by have := HO.out.2.size; have := HB1.out.size; omega) _
          refine ⟨_, zs, acc ++ [r], some ⟨b, off, none⟩, c, k, wh, rfl, rfl, by rw [HLT.out], rfl, hk1, by rw [HLT.out]; omega, by rw [HLT.out]; omega, hc, HS.out, HX.out, HN.out, HF.out, by rw [HLT.out]; exact HW.out, by rw [HLT.out]; simp; omega, ?_, ?_⟩
          · rw [List.map_append, List.length_append]
            exact hown2
          · exact hbx.grown hgrow (by have := HO.out.2.size; have := HB1.out.size; simp; omega) (own_block HO.out.1)
        case measure => simp; omega
      · have d4 : decide ((k : Int) ≤ splitN ys.length) = false := by simp; omega
        have CR := Lib.hid (fun w' (hb : Below w.heap.size w w') => Root_any (splitN ys.length) (ys.take (splitN ys.length)) (some ⟨b, off, none⟩) c w' (by rw [List.length_take]; omega) (HT.out.next hb)
          (.inr ⟨b, off, rfl, Nat.lt_of_lt_of_le hl hb.size, fun j x hx => (hb.cell (p := ⟨b, _, none⟩) hl).trans (hcell j x (by rw [List.getElem?_take] at hx; split at hx <;> simp_all))⟩) (by omega) (by omega) (fun x h => hx x (List.mem_of_mem_take h)))
        have HN := Lib.hid (show RX = restS (ys.drop (splitN ys.length)) (k - splitN ys.length) ++ (acc ++ [rootS (ys.take (splitN ys.length))]).reverse by rw [hRX, restS_right hk1 hlt hkl]; simp)
        have HF := Lib.hid (show FX = firstS (ys.drop (splitN ys.length)) (k - splitN ys.length) by rw [hFX, firstS_right hk1 hlt hkl])
        have HW := Lib.hid (show WX = false by rw [hWX, wholeN_right hk1 hlt hkl]; simp)
        have HLT := Lib.hid (show (ys.drop (splitN ys.length)).length = ys.length - splitN ys.length by rw [List.length_drop])
        have HS := Lib.hid (show StrSl w (some ⟨b, off + splitN ys.length, none⟩) (ys.drop (splitN ys.length)) from .inr ⟨b, off + splitN ys.length, rfl, hl, fun j x hx => by rw [List.getElem?_drop] at hx; rw [Nat.add_assoc]; exact hcell _ x hx⟩)
        have HX := Lib.hid (fun x (h : x ∈ ys.drop (splitN ys.length)) => hx x (List.mem_of_mem_drop h))
        have HO := Lib.hid (And.intro hown hB)
        generalize rootS (ys.take (splitN ys.length)) = r at *
        generalize ys.drop (splitN ys.length) = zs at *
        generalize splitN ys.length = K at *
        generalize ys.length = n at *
        clear hRX hFX hWX hx hown hB hcell
        have q1 : K ≤ n := by omega
        have q2 : K ≤ c := by omega
        have q3 : ¬ c = K := by omega
        have q4 : IntKind.i64.wrap ((k : Int) - K) = (k : Int) - K := by simp [IntKind.wrap, IntKind.bits, IntKind.signed]; omega
        go_wp2_with fail
        refine (CP.out _).mono ?_
        rintro e w' ⟨rfl, rfl⟩
        clear CP
        rename World => wr
        go_upto_region 11 with (fail)
        go_region_law (first
          | (go_simp; go_at_call 27; have hq := HO.out.2.drew; with_reducible refine Calls.mono (CR.out _ hq) ?_; clear hq; rintro e wx ⟨rfl, hb⟩; have HB1 := Lib.hid (Below.andThen (Below.refl wr.heap.size wr).drew hb); clear hb)
          | (refine step_append_lies _ rfl (.tmp 39) (.tmp 44) 26 rfl w.heap.size 9 i0 (.string ⟨#[]⟩) 1 16 Tryd.underlying26 hi0 hz0 hz1 hz2 rfl (by decide) V acc.length (acc.map strV) rfl ((below_own HO.out.1 HB1.out).alloc _) _ 1 1 [.string r] rfl rfl (cells_new _ _ _) (by simp [Value.oneCell']) (by decide) (by unfold maxLen; omega) (by omega) (by have := HO.out.2.size; have := HB1.out.size; simp; omega) _ rfl ?_; intro g cap w2 hown2 hgrow _ _; have HG := Lib.hid (And.intro hown2 hgrow); clear hown2 hgrow))
        go_simp
        go_wp2_with fail
        go_roundw
        case rel =>
          obtain ⟨hown2, hgrow⟩ := HG.out
          have hbx : Below w.heap.size w (wx.alloc (.cells #[.string r] 9)) := (HO.out.2.trans (HB1.out.mono HO.out.2.size)).alloc (by have := HO.out.2.size; have := HB1.out.size; omega) _
          refine ⟨_, zs, acc ++ [r], some ⟨b, off + K, none⟩, c - K, k - K, false, rfl, rfl, by rw [HLT.out], vint (by omega), by omega, by rw [HLT.out]; omega, by rw [HLT.out]; omega, by omega, HS.out, HX.out, HN.out, HF.out, by rw [HLT.out]; rw [HW.out]; rfl, by rw [HLT.out]; simp; omega, ?_, ?_⟩
          · rw [List.map_append, List.length_append]
            exact hown2
          · exact hbx.grown hgrow (by have := HO.out.2.size; have := HB1.out.size; simp; omega) (own_block HO.out.1)
        case measure => simp; omega
    · have h1 : k = ys.length := by omega
      have d3 : decide (k < ys.length) = false := by simpa using hlt
      have HRX := Lib.hid (show RX = acc.reverse by rw [hRX, restS_end (by omega)]; simp)
      have HFX := Lib.hid (show FX = rootS ys by rw [hFX, firstS_end (by omega)])
      have HWX := Lib.hid (show WX = wh by rw [hWX, wholeN_end (by omega)]; simp)
      have hbs := hB.size
      cases wh
      · have CR0 := Lib.hid (fun w' (hb : Below w.heap.size w w') => Root_any ys.length ys o c w' rfl (HT.out.next hb) (hS.next hb) hN (by omega) hx)
        have HO := Lib.hid (And.intro hown hB)
        have HP := Lib.hid (show PR = (acc ++ [rootS ys]).reverse by rw [HPR.out, HRX.out, HFX.out, HWX.out]; simp)
        generalize rootS ys = r at *
        clear hx hS hRX hFX hWX hown hB h1 hlt HFX
        go_wp2_with fail
        with_reducible refine Calls.mono (CR0.out _ HO.out.2) ?_
        rintro e wx ⟨rfl, hb⟩
        have HB1 := Lib.hid hb
        have hbz := hb.size
        clear hb CR0
        go_wp2_with (at_builtin; refine wpList_append_own _ rfl _ _ 26 rfl w.heap.size 9 i0 (.string ⟨#[]⟩) 1 16 Tryd.underlying26 hi0 hz0 hz1 hz2 rfl (by decide) V acc.length (acc.map strV) rfl ((below_own HO.out.1 HB1.out).alloc _) ⟨wx.heap.size, 0, none⟩ 1 1 [.string r] rfl rfl (cells_new _ _ _) (by simp [Value.oneCell']) (by unfold maxLen; omega) (by omega) (by simp; omega) ?_; intro v' w1 hown' hgrow _; have KK := Lib.hid (And.intro hown' hgrow); clear hown' hgrow)
        obtain ⟨ho1, hg1⟩ := KK.out
        obtain ⟨vo, vc, rfl, v1, v2, v3⟩ := own_form ho1
        have e1 : acc.map strV ++ [Value.string r] = (acc ++ [r]).map strV := by simp
        have e2 : acc.length + 1 = (acc ++ [r]).length := by simp
        have hbw : Below w.heap.size w w1 := ((Below.andThen HO.out.2 HB1.out).alloc (by omega) _).grown hg1 (by simp; omega) (own_block HO.out.1)
        have HBW := Lib.hid hbw
        rw [e1, e2] at ho1
        have CR := Lib.hid (Rev_string ho1 (by simp; omega))
        have CC := Lib.hid (fun w => Clip_any vo (acc.length + 1) vc w v1 v2 v3)
        have hL : PR.length = acc.length + 1 := by rw [HP.out]; simp
        have HL := Lib.hid hL
        rw [← e2] at CR
        clear ho1 hg1 v1 v2 v3 e1 e2 hbw hL KK
        go_wp2_with fail
        with_reducible refine Calls.mono CR.out ?_
        rintro e w2 ⟨rfl, hs, hb⟩
        have HS := Lib.hid (And.intro hs hb)
        clear CR hs hb
        go_wp2_with fail
        with_reducible refine Calls.mono (CC.out _) ?_
        rintro e w3 ⟨rfl, rfl⟩
        clear CC
        go_wp2_with fail
        go_ret2
        refine ⟨vo, by rw [HL.out]; rfl, by rw [HP.out]; exact HS.out.1, HBW.out.trans HS.out.2⟩
      · obtain ⟨vo, vc, rfl, v1, v2, v3⟩ := own_form hown
        have CR := Lib.hid (Rev_string hown (by omega))
        have CC := Lib.hid (fun w => Clip_any vo acc.length vc w v1 v2 v3)
        have HB := Lib.hid hB
        have hP : PR = acc.reverse := by rw [HPR.out, HRX.out, HWX.out]; simp
        have HP := Lib.hid hP
        have HL := Lib.hid (show PR.length = acc.length by rw [hP]; simp)
        clear hown hx hS hRX hFX hWX hP v1 v2 v3 hB h1 hlt
        go_wp2_with fail
        with_reducible refine Calls.mono CR.out ?_
        rintro e w2 ⟨rfl, hs, hb⟩
        have HS := Lib.hid (And.intro hs hb)
        clear CR hs hb
        go_wp2_with fail
        with_reducible refine Calls.mono (CC.out _) ?_
        rintro e w3 ⟨rfl, rfl⟩
        clear CC
        go_wp2_with fail
        go_ret2
        refine ⟨vo, by rw [HL.out]; rfl, by rw [HP.out]; exact HS.out.1, HB.out.trans HS.out.2⟩
theorem Extension_in (xs : List ByteArray) (o : Option Addr) (c m : Nat) (w : World) (T : Tab w) (hS : StrSl w o xs) (hN : xs.length ≤ c) (hc : c ≤ 9223372036854775807) (hxs : xs.length ≤ 2 ^ 40) (hx : ∀ x ∈ xs, x.size ≤ 2 ^ 38) (hm : m ≤ xs.length) :
    Calls Tryd.prog 24 #[.slice o xs.length c, .int .i64 m] w fun e w' => ∃ o', e = .returned (.tuple #[.slice o' (extS xs m).length (extS xs m).length, .int .i64 0]) ∧ StrSl w' o' (extS xs m) ∧ Below w.heap.size w w' := by
  by_cases h0 : m = 0
  · subst h0
    refine (Extension_none o xs.length c w).mono ?_
    rintro e w' ⟨rfl, rfl⟩
    have e : extS xs 0 = [] := by simp [extS]
    rw [e]
    exact ⟨none, rfl, .inl rfl, Below.refl _ _⟩
  · exact Extension_any xs o c m w T hS hN hc hxs hx (by omega) hm
end Go.Proofs.YtojfblkmhdgjeaaDoor
