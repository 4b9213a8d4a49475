/- The reference's words of numbers below 1000: lengths. -/
/- The reference's words of numbers below 1000, tongue 0. -/
/- The reference's words of numbers below 1000, tongue 1. -/
/- The reference's words of numbers below 1000, tongue 2. -/
/- The reference's words of thousands. -/
/- The reference's Words. -/
import Derived.Test.YtebdpdmkehfgfaaDoorWoGA
set_option linter.unusedVariables false
set_option linter.unusedSimpArgs false
namespace Go.Proofs.YtebdpdmkehfgfaaDoor
open Go.RowKit
namespace Wo
theorem one_of {l : List B} (h : l.length = 1) : ∃ y, l = [y] := List.length_eq_one_iff.1 h
set_option maxRecDepth 100000 in
theorem rb1 {n : Nat} (h0 : 0 < n) (hn : n < 100) (e : Bool) : ∃ y, rbelow 1 n e = [y] ∧ y.length ≤ 40 := by
  have h := below (p := fun n => n == 0 || decide (∀ e : Bool, (rbelow 1 n e).length = 1 ∧ ((rbelow 1 n e).getD 0 []).length ≤ 40)) (N := 100) (by decide +kernel) hn
  rcases Bool.or_eq_true_iff.1 h with h | h
  · have := beq_iff_eq.1 h
    omega
  · obtain ⟨h1, h2⟩ := of_decide_eq_true h e
    obtain ⟨y, hy⟩ := one_of h1
    rw [hy] at h2
    exact ⟨y, hy, h2⟩
set_option maxRecDepth 100000 in
theorem rs1 {n : Nat} (h0 : 0 < n) (hn : n < 1000) (e : Bool) : ∃ y, rsmall 1 n e = [y] ∧ y.length ≤ 90 := by
  have h := below (p := fun n => n == 0 || decide (∀ e : Bool, (rsmall 1 n e).length = 1 ∧ ((rsmall 1 n e).getD 0 []).length ≤ 90)) (N := 1000) (by decide +kernel) hn
  rcases Bool.or_eq_true_iff.1 h with h | h
  · have := beq_iff_eq.1 h
    omega
  · obtain ⟨h1, h2⟩ := of_decide_eq_true h e
    obtain ⟨y, hy⟩ := one_of h1
    rw [hy] at h2
    exact ⟨y, hy, h2⟩
set_option maxRecDepth 100000 in
theorem rb_len (k : Nat) (hk : k < 3) {n : Nat} (hn : n < 100) (e : Bool) : (rbelow k n e).length ≤ 8 := by
  unfold rbelow
  split
  · simp
  · split
    · simp
    · split
      · simp
      · split
        · simp
        · split
          · simp
          · split <;> simp
end Wo
end Go.Proofs.YtebdpdmkehfgfaaDoor
set_option linter.unusedVariables false
set_option linter.unusedSimpArgs false
namespace Go.Proofs.YtebdpdmkehfgfaaDoor
open Go.RowKit
namespace Wo
set_option maxRecDepth 100000 in
set_option maxHeartbeats 8000000 in
theorem rsmall0 (n : Nat) (ends : Bool) (N : Int) (hN : N = n) (h0 : 0 < n) (hn : n < 1000) (w : World) : Calls Tryd.prog 36 #[.int .i64 1, .int .i64 N, .bool ends] w fun e w' => ∃ v, e = .returned v ∧ OwnS w' w.heap.size v (rsmall 0 n ends) ∧ Below w.heap.size w w' := by
  subst hN
  have BB := Lib.hid (Below.refl w.heap.size w)
  obtain ⟨r, hr⟩ : ∃ r, n % 100 = r := ⟨_, rfl⟩
  obtain ⟨h, hh⟩ : ∃ h, n / 100 = h := ⟨_, rfl⟩
  have ri : (n : Int) % 100 = r := by omega
  have hi : (n : Int) / 100 = h := by omega
  have r99 : r < 100 := by omega
  have h9 : h < 10 := by omega
  have HD := Lib.hid (show rsmall 0 n ends = (if n < 100 then rrest 0 n ends else (ones 0).getD (n / 100) [] :: hundred :: rrest 0 n ends) from by rfl)
  have HR := Lib.hid (show rrest 0 n ends = (if r > 0 then rbelow 0 r ends else []) from by unfold rrest; rw [hr])
  rw [hh] at HD
  generalize rsmall 0 n ends = D at *
  generalize rrest 0 n ends = R0 at *
  have CU := Lib.hid (fun W => runits 0 1 (by decide) rfl W)
  have LO := Lib.hid (ones_len (k := 0) (by decide))
  obtain ⟨x, hx⟩ : ∃ x, (ones 0).getD h [] = x := ⟨_, rfl⟩
  rw [hx] at HD
  have HX := Lib.hid hx
  clear hx
  by_cases r0 : 0 < r
  · have CB := Lib.hid (fun W => rbelow0 r ends r rfl r0 r99 W)
    have HRL := Lib.hid (rb_len 0 (by decide) r99 ends)
    have r0i : (0 : Int) < r := by omega
    obtain ⟨R, hR⟩ : ∃ R, rbelow 0 r ends = R := ⟨_, rfl⟩
    rw [hR] at CB HR HRL
    replace HR := Lib.hid (HR.out.trans (if_pos r0))
    clear hR
    by_cases hlt : n < 100
    · have hlti : (n : Int) < 100 := by omega
      have HE := Lib.hid (show D = R from HD.out.trans ((if_pos hlt).trans HR.out))
      go_enter Tryd.func36, Tryd.ntmps36
      go_wp2_with fail
      with_reducible refine Calls.mono (CB.out _) ?_
      rintro e w2 ⟨v, rfl, ho, hb⟩
      have HO := Lib.hid (ho.lower BB.out.size)
      obtain ⟨oR, cR, rfl, -, -, ncR, hsl⟩ := ho.form
      have SR := Lib.hid hsl
      have NR := Lib.hid ncR
      replace BB := Lib.hid (Below.andThen BB.out hb)
      clear ho hb hsl ncR
      go_wp2_with fail
      go_ret
      exact ⟨_, rfl, by rw [HE.out]; exact HO.out, BB.out⟩
    · have hlti : ¬ (n : Int) < 100 := by omega
      replace HD := Lib.hid (HD.out.trans (if_neg hlt))
      have HE := Lib.hid (show D = [x, hundred] ++ R from HD.out.trans (by rw [HR.out]; rfl))
      go_enter Tryd.func36, Tryd.ntmps36
      go_wp2_with fail
      with_reducible refine Calls.mono (CB.out _) ?_
      rintro e w2 ⟨v, rfl, ho, hb⟩
      have HO := Lib.hid (ho.lower BB.out.size)
      obtain ⟨oR, cR, rfl, -, -, ncR, hsl⟩ := ho.form
      have SR := Lib.hid hsl
      have NR := Lib.hid ncR
      replace BB := Lib.hid (Below.andThen BB.out hb)
      clear ho hb hsl ncR
      go_wp2_with fail
      with_reducible refine Calls.mono (CU.out _) ?_
      rintro e w3 ⟨b3, rfl, hS, hb⟩
      obtain ⟨hl3, hc3⟩ := ssl_at hS (i := h) (by rw [LO.out]; omega)
      rw [HX.out] at hc3
      replace SR := Lib.hid (SR.out.next hb)
      replace BB := Lib.hid (Below.andThen BB.out hb)
      clear hS hb
      go_wp2_with (at_builtin; refine wpList_append_strs rfl _ _ rfl rfl w.heap.size (.slice (some ⟨w3.heap.size, 0, none⟩) 2 2) [x, hundred] rfl (made_own w3 [x, hundred] BB.out.size rfl rfl (by decide)) oR R.length cR R rfl rfl NR.out (SR.out.next ((Below.refl _ _).alloc (Nat.le_refl _) _)) (by have := HRL.out; first | (simp; done) | (simp; omega)) (by have := BB.out.size; first | (simp; done) | (simp; omega)) ?_; intro V9 w9 ho hg; have HO9 := Lib.hid ho; have BB9 := Lib.hid (grown_below BB.out hg (made_own w3 [x, hundred] BB.out.size rfl rfl (by simp)).block); clear ho hg)
      go_ret
      exact ⟨_, rfl, by rw [HE.out]; exact HO9.out, BB9.out⟩
  · obtain rfl : r = 0 := by omega
    have HRL := Lib.hid (show ([] : List B).length ≤ 8 from by decide)
    replace HR := Lib.hid (HR.out.trans (if_neg r0))
    have hlt : ¬ n < 100 := by omega
    have hlti : ¬ (n : Int) < 100 := by omega
    have ri0 : (n : Int) % 100 = 0 := by omega
    replace HD := Lib.hid (HD.out.trans (if_neg hlt))
    clear ri
    have HE := Lib.hid (show D = [x, hundred] ++ ([] : List B) from HD.out.trans (by rw [HR.out]; rfl))
    go_enter Tryd.func36, Tryd.ntmps36
    go_wp2_with fail
    with_reducible refine Calls.mono (CU.out _) ?_
    rintro e w3 ⟨b3, rfl, hS, hb⟩
    obtain ⟨hl3, hc3⟩ := ssl_at hS (i := h) (by rw [LO.out]; omega)
    rw [HX.out] at hc3
    replace BB := Lib.hid (Below.andThen BB.out hb)
    clear hS hb
    go_wp2_with (at_builtin; refine wpList_append_strs rfl _ _ rfl rfl w.heap.size (.slice (some ⟨w3.heap.size, 0, none⟩) 2 2) [x, hundred] rfl (made_own w3 [x, hundred] BB.out.size rfl rfl (by decide)) none 0 0 ([] : List B) rfl rfl (fun _ => rfl) (.inl rfl) (by have := HRL.out; first | (simp; done) | (simp; omega)) (by have := BB.out.size; first | (simp; done) | (simp; omega)) ?_; intro V9 w9 ho hg; have HO9 := Lib.hid ho; have BB9 := Lib.hid (grown_below BB.out hg (made_own w3 [x, hundred] BB.out.size rfl rfl (by simp)).block); clear ho hg)
    go_ret
    exact ⟨_, rfl, by rw [HE.out]; exact HO9.out, BB9.out⟩
end Wo
end Go.Proofs.YtebdpdmkehfgfaaDoor
set_option linter.unusedVariables false
set_option linter.unusedSimpArgs false
namespace Go.Proofs.YtebdpdmkehfgfaaDoor
open Go.RowKit
namespace Wo
set_option maxRecDepth 100000 in
set_option maxHeartbeats 8000000 in
theorem rsmall1 (n : Nat) (ends : Bool) (N : Int) (hN : N = n) (h0 : 0 < n) (hn : n < 1000) (w : World) : Calls Tryd.prog 36 #[.int .i64 2, .int .i64 N, .bool ends] w fun e w' => ∃ v, e = .returned v ∧ OwnS w' w.heap.size v (rsmall 1 n ends) ∧ Below w.heap.size w w' := by
  subst hN
  have BB := Lib.hid (Below.refl w.heap.size w)
  obtain ⟨r, hr⟩ : ∃ r, n % 100 = r := ⟨_, rfl⟩
  obtain ⟨h, hh⟩ : ∃ h, n / 100 = h := ⟨_, rfl⟩
  have ri : (n : Int) % 100 = r := by omega
  have hi : (n : Int) / 100 = h := by omega
  have r99 : r < 100 := by omega
  have h9 : h < 10 := by omega
  have HD := Lib.hid (show rsmall 1 n ends = (if n < 100 then rrest 1 n ends else [(rbelow 1 (n / 100) false).headD [] ++ hundert ++ (rrest 1 n ends).headD []]) from by rfl)
  have HR := Lib.hid (show rrest 1 n ends = (if r > 0 then rbelow 1 r ends else []) from by unfold rrest; rw [hr])
  rw [hh] at HD
  generalize rsmall 1 n ends = D at *
  generalize rrest 1 n ends = R0 at *
  by_cases r0 : 0 < r
  · have CB := Lib.hid (fun W => rbelow1 r ends r rfl r0 r99 W)
    have HRL := Lib.hid (rb_len 1 (by decide) r99 ends)
    have r0i : (0 : Int) < r := by omega
    obtain ⟨y, hy, zy⟩ := rb1 r0 r99 ends
    rw [hy] at CB HR
    replace HR := Lib.hid (HR.out.trans (if_pos r0))
    have zb : (bs y).size ≤ 40 := by rw [bs_size]; exact zy
    clear HRL hy
    by_cases hlt : n < 100
    · have hlti : (n : Int) < 100 := by omega
      have HE := Lib.hid (show D = [y] from HD.out.trans ((if_pos hlt).trans HR.out))
      go_enter Tryd.func36, Tryd.ntmps36
      go_wp2_with fail
      with_reducible refine Calls.mono (CB.out _) ?_
      rintro e w2 ⟨v, rfl, ho, hb⟩
      have HO := Lib.hid (ho.lower BB.out.size)
      obtain ⟨oR, cR, rfl, -, -, ncR, hsl⟩ := ho.form
      have SR := Lib.hid hsl
      have NR := Lib.hid ncR
      replace BB := Lib.hid (Below.andThen BB.out hb)
      clear ho hb hsl ncR
      go_wp2_with fail
      go_ret
      exact ⟨_, rfl, by rw [HE.out]; exact HO.out, BB.out⟩
    · have hlti : ¬ (n : Int) < 100 := by omega
      replace HD := Lib.hid (HD.out.trans (if_neg hlt))
      obtain ⟨x, hx, zx⟩ := rb1 (show 0 < h by omega) (by omega) false
      have CH := Lib.hid (fun W => rbelow1 h false h rfl (by omega) (by omega) W)
      rw [hx] at CH HD
      have zc : (bs x).size ≤ 40 := by rw [bs_size]; exact zx
      have HE := Lib.hid (show D = [x ++ hundert ++ y] from HD.out.trans (by rw [HR.out]; rfl))
      clear hx
      go_enter Tryd.func36, Tryd.ntmps36
      go_wp2_with fail
      with_reducible refine Calls.mono (CB.out _) ?_
      rintro e w2 ⟨v, rfl, ho, hb⟩
      have HO := Lib.hid (ho.lower BB.out.size)
      obtain ⟨oR, cR, rfl, -, -, ncR, hsl⟩ := ho.form
      have SR := Lib.hid hsl
      have NR := Lib.hid ncR
      replace BB := Lib.hid (Below.andThen BB.out hb)
      clear ho hb hsl ncR
      go_wp2_with fail
      with_reducible refine Calls.mono (CH.out _) ?_
      rintro e w3 ⟨v, rfl, ho, hb⟩
      obtain ⟨oh, ch, rfl, -, -, -, hsl⟩ := ho.form
      obtain ⟨bh, fh, rfl, hlh, hch⟩ := hsl.cells (by simp)
      have hc3 := hch 0 x rfl
      rw [Nat.add_zero] at hc3
      obtain ⟨bR, fR, rfl, hlR, hcR⟩ := (SR.out.next hb).cells (by simp)
      have hc4 := hcR 0 y rfl
      rw [Nat.add_zero] at hc4
      clear hcR
      replace BB := Lib.hid (Below.andThen BB.out hb)
      clear ho hb hsl hch
      go_wp2_with fail
      rw [show bs x ++ (⟨#[104, 117, 110, 100, 101, 114, 116]⟩ : ByteArray) ++ bs y = bs (x ++ hundert ++ y) from by rw [← bs_append, ← bs_append]; rfl]
      go_ret
      exact ⟨_, rfl, by rw [HE.out]; exact made_own w3 [x ++ hundert ++ y] BB.out.size rfl rfl (by decide), BB.out.alloc BB.out.size _⟩
  · obtain rfl : r = 0 := by omega
    have HRL := Lib.hid (show ([] : List B).length ≤ 8 from by decide)
    replace HR := Lib.hid (HR.out.trans (if_neg r0))
    have hlt : ¬ n < 100 := by omega
    have hlti : ¬ (n : Int) < 100 := by omega
    have ri0 : (n : Int) % 100 = 0 := by omega
    replace HD := Lib.hid (HD.out.trans (if_neg hlt))
    clear ri
    obtain ⟨x, hx, zx⟩ := rb1 (show 0 < h by omega) (by omega) false
    have CH := Lib.hid (fun W => rbelow1 h false h rfl (by omega) (by omega) W)
    rw [hx] at CH HD
    have zc : (bs x).size ≤ 40 := by rw [bs_size]; exact zx
    have HE := Lib.hid (show D = [x ++ hundert] from HD.out.trans (by rw [HR.out]; simp))
    clear hx
    go_enter Tryd.func36, Tryd.ntmps36
    go_wp2_with fail
    with_reducible refine Calls.mono (CH.out _) ?_
    rintro e w3 ⟨v, rfl, ho, hb⟩
    obtain ⟨oh, ch, rfl, -, -, -, hsl⟩ := ho.form
    obtain ⟨bh, fh, rfl, hlh, hch⟩ := hsl.cells (by simp)
    have hc3 := hch 0 x rfl
    rw [Nat.add_zero] at hc3
    replace BB := Lib.hid (Below.andThen BB.out hb)
    clear ho hb hsl hch
    go_wp2_with fail
    rw [show bs x ++ (⟨#[104, 117, 110, 100, 101, 114, 116]⟩ : ByteArray) = bs (x ++ hundert) from by rw [← bs_append]; rfl]
    go_ret
    exact ⟨_, rfl, by rw [HE.out]; exact made_own w3 [x ++ hundert] BB.out.size rfl rfl (by decide), BB.out.alloc BB.out.size _⟩
end Wo
end Go.Proofs.YtebdpdmkehfgfaaDoor
set_option linter.unusedVariables false
set_option linter.unusedSimpArgs false
namespace Go.Proofs.YtebdpdmkehfgfaaDoor
open Go.RowKit
namespace Wo
set_option maxRecDepth 100000 in
set_option maxHeartbeats 8000000 in
theorem rsmall2 (n : Nat) (ends : Bool) (N : Int) (hN : N = n) (h0 : 0 < n) (hn : n < 1000) (w : World) : Calls Tryd.prog 36 #[.int .i64 3, .int .i64 N, .bool ends] w fun e w' => ∃ v, e = .returned v ∧ OwnS w' w.heap.size v (rsmall 2 n ends) ∧ Below w.heap.size w w' := by
  subst hN
  have BB := Lib.hid (Below.refl w.heap.size w)
  obtain ⟨r, hr⟩ : ∃ r, n % 100 = r := ⟨_, rfl⟩
  obtain ⟨h, hh⟩ : ∃ h, n / 100 = h := ⟨_, rfl⟩
  have ri : (n : Int) % 100 = r := by omega
  have hi : (n : Int) / 100 = h := by omega
  have r99 : r < 100 := by omega
  have h9 : h < 10 := by omega
  have HD := Lib.hid (show rsmall 2 n ends = (if n < 100 then rrest 2 n ends else (if n = 100 then [cien] else hundreds.getD (n / 100 - 1) [] :: rrest 2 n ends)) from by unfold rsmall; simp)
  have HR := Lib.hid (show rrest 2 n ends = (if r > 0 then rbelow 2 r ends else []) from by unfold rrest; rw [hr])
  rw [hh] at HD
  generalize rsmall 2 n ends = D at *
  generalize rrest 2 n ends = R0 at *
  have CU := Lib.hid (fun W => rhundreds W)
  have LO := Lib.hid (show hundR.length = 10 from rfl)
  obtain ⟨x, hx⟩ : ∃ x, hundR.getD h [] = x := ⟨_, rfl⟩
  have HXD := Lib.hid (show 0 < h → hundreds.getD (h - 1) [] = x from fun h0 => by
    rw [← hx]
    obtain ⟨j, rfl⟩ : ∃ j, h = j + 1 := ⟨h - 1, by omega⟩
    rfl)
  have HX := Lib.hid hx
  clear hx
  by_cases r0 : 0 < r
  · have CB := Lib.hid (fun W => rbelow2 r ends r rfl r0 r99 W)
    have HRL := Lib.hid (rb_len 2 (by decide) r99 ends)
    have r0i : (0 : Int) < r := by omega
    obtain ⟨R, hR⟩ : ∃ R, rbelow 2 r ends = R := ⟨_, rfl⟩
    rw [hR] at CB HR HRL
    replace HR := Lib.hid (HR.out.trans (if_pos r0))
    clear hR
    by_cases hlt : n < 100
    · have hlti : (n : Int) < 100 := by omega
      have HE := Lib.hid (show D = R from HD.out.trans ((if_pos hlt).trans HR.out))
      go_enter Tryd.func36, Tryd.ntmps36
      go_wp2_with fail
      with_reducible refine Calls.mono (CB.out _) ?_
      rintro e w2 ⟨v, rfl, ho, hb⟩
      have HO := Lib.hid (ho.lower BB.out.size)
      obtain ⟨oR, cR, rfl, -, -, ncR, hsl⟩ := ho.form
      have SR := Lib.hid hsl
      have NR := Lib.hid ncR
      replace BB := Lib.hid (Below.andThen BB.out hb)
      clear ho hb hsl ncR
      go_wp2_with fail
      go_ret
      exact ⟨_, rfl, by rw [HE.out]; exact HO.out, BB.out⟩
    · have hlti : ¬ (n : Int) < 100 := by omega
      replace HD := Lib.hid (HD.out.trans (if_neg hlt))
      have c100 : ¬ n = 100 := by omega
      have c100b : ((n : Int) == 100) = false := by simp; omega
      have HE := Lib.hid (show D = [x] ++ R from HD.out.trans ((if_neg c100).trans (by rw [HXD.out (by omega), HR.out]; rfl)))
      go_enter Tryd.func36, Tryd.ntmps36
      go_wp2_with fail
      with_reducible refine Calls.mono (CB.out _) ?_
      rintro e w2 ⟨v, rfl, ho, hb⟩
      have HO := Lib.hid (ho.lower BB.out.size)
      obtain ⟨oR, cR, rfl, -, -, ncR, hsl⟩ := ho.form
      have SR := Lib.hid hsl
      have NR := Lib.hid ncR
      replace BB := Lib.hid (Below.andThen BB.out hb)
      clear ho hb hsl ncR
      go_wp2_with fail
      with_reducible refine Calls.mono (CU.out _) ?_
      rintro e w3 ⟨b3, rfl, hS, hb⟩
      obtain ⟨hl3, hc3⟩ := ssl_at hS (i := h) (by rw [LO.out]; omega)
      rw [HX.out] at hc3
      replace SR := Lib.hid (SR.out.next hb)
      replace BB := Lib.hid (Below.andThen BB.out hb)
      clear hS hb
      go_wp2_with (at_builtin; refine wpList_append_strs rfl _ _ rfl rfl w.heap.size (.slice (some ⟨w3.heap.size, 0, none⟩) 1 1) [x] rfl (made_own w3 [x] BB.out.size rfl rfl (by decide)) oR R.length cR R rfl rfl NR.out (SR.out.next ((Below.refl _ _).alloc (Nat.le_refl _) _)) (by have := HRL.out; first | (simp; done) | (simp; omega)) (by have := BB.out.size; first | (simp; done) | (simp; omega)) ?_; intro V9 w9 ho hg; have HO9 := Lib.hid ho; have BB9 := Lib.hid (grown_below BB.out hg (made_own w3 [x] BB.out.size rfl rfl (by simp)).block); clear ho hg)
      go_ret
      exact ⟨_, rfl, by rw [HE.out]; exact HO9.out, BB9.out⟩
  · obtain rfl : r = 0 := by omega
    have HRL := Lib.hid (show ([] : List B).length ≤ 8 from by decide)
    replace HR := Lib.hid (HR.out.trans (if_neg r0))
    have hlt : ¬ n < 100 := by omega
    have hlti : ¬ (n : Int) < 100 := by omega
    have ri0 : (n : Int) % 100 = 0 := by omega
    replace HD := Lib.hid (HD.out.trans (if_neg hlt))
    clear ri
    by_cases c100 : n = 100
    · have c100b : ((n : Int) == 100) = true := by rw [c100]; rfl
      have HE := Lib.hid (show D = [cien] from HD.out.trans (if_pos c100))
      clear c100 CU LO HX HXD
      go_enter Tryd.func36, Tryd.ntmps36
      go_wp2_with fail
      go_ret
      exact ⟨_, rfl, by rw [HE.out]; exact made_own w [cien] (Nat.le_refl _) rfl rfl (by decide), (Below.refl _ _).alloc (Nat.le_refl _) _⟩
    · have c100b : ((n : Int) == 100) = false := by simp; omega
      have HE := Lib.hid (show D = [x] ++ ([] : List B) from HD.out.trans ((if_neg c100).trans (by rw [HXD.out (by omega), HR.out]; rfl)))
      go_enter Tryd.func36, Tryd.ntmps36
      go_wp2_with fail
      with_reducible refine Calls.mono (CU.out _) ?_
      rintro e w3 ⟨b3, rfl, hS, hb⟩
      obtain ⟨hl3, hc3⟩ := ssl_at hS (i := h) (by rw [LO.out]; omega)
      rw [HX.out] at hc3
      replace BB := Lib.hid (Below.andThen BB.out hb)
      clear hS hb
      go_wp2_with (at_builtin; refine wpList_append_strs rfl _ _ rfl rfl w.heap.size (.slice (some ⟨w3.heap.size, 0, none⟩) 1 1) [x] rfl (made_own w3 [x] BB.out.size rfl rfl (by decide)) none 0 0 ([] : List B) rfl rfl (fun _ => rfl) (.inl rfl) (by have := HRL.out; first | (simp; done) | (simp; omega)) (by have := BB.out.size; first | (simp; done) | (simp; omega)) ?_; intro V9 w9 ho hg; have HO9 := Lib.hid ho; have BB9 := Lib.hid (grown_below BB.out hg (made_own w3 [x] BB.out.size rfl rfl (by simp)).block); clear ho hg)
      go_ret
      exact ⟨_, rfl, by rw [HE.out]; exact HO9.out, BB9.out⟩
end Wo
end Go.Proofs.YtebdpdmkehfgfaaDoor
set_option linter.unusedVariables false
set_option linter.unusedSimpArgs false
namespace Go.Proofs.YtebdpdmkehfgfaaDoor
open Go.RowKit
namespace Wo
theorem rs_len (k : Nat) (hk : k < 3) {n : Nat} (hn : n < 1000) (e : Bool) : (rsmall k n e).length ≤ 20 := by
  have hr : (rrest k n e).length ≤ 8 := by
    unfold rrest
    split
    · exact rb_len k hk (by omega) e
    · simp
  unfold rsmall
  split
  · omega
  · split
    · simp
    · split
      · split
        · simp
        · simp only [List.length_cons]; omega
      · simp only [List.length_cons]; omega
set_option maxRecDepth 100000 in
set_option maxHeartbeats 4000000 in
theorem rthousand0 (n : Nat) (N : Int) (hN : N = n) (h0 : 0 < n) (hn : n < 1000) (w : World) : Calls Tryd.prog 35 #[.int .i64 1, .int .i64 N] w fun e w' => ∃ v, e = .returned v ∧ OwnS w' w.heap.size v (rthousand 0 n) ∧ Below w.heap.size w w' := by
  subst hN
  have CS := Lib.hid (fun W => rsmall0 n false n rfl h0 hn W)
  have HL := Lib.hid (rs_len 0 (by decide) hn false)
  have HE := Lib.hid (show rthousand 0 n = rsmall 0 n false ++ [thousand] from by rfl)
  generalize rthousand 0 n = D at *
  generalize rsmall 0 n false = R at *
  go_enter Tryd.func35, Tryd.ntmps35
  go_wp2_with fail
  with_reducible refine Calls.mono (CS.out _) ?_
  rintro e w2 ⟨v, rfl, ho, hb⟩
  have HO := Lib.hid ho
  have BB := Lib.hid hb
  clear ho hb
  go_wp2_with (at_builtin; refine wpList_append_strs rfl _ _ rfl rfl w.heap.size v R rfl (HO.out.next ((Below.refl _ _).alloc (Nat.le_refl _) _)) (some ⟨w2.heap.size, 0, none⟩) 1 1 [thousand] rfl rfl (fun h => by cases h) (ssl_new _ _ [thousand]) (by have := HL.out; first | (simp; done) | (simp; omega) | omega) (by have := BB.out.size; first | (simp; done) | (simp; omega)) ?_; intro V9 w9 ho hg; have HO9 := Lib.hid ho; have BB9 := Lib.hid (grown_below BB.out hg HO.out.block); clear ho hg)
  go_ret
  exact ⟨_, rfl, by rw [HE.out]; exact HO9.out, BB9.out⟩
set_option maxRecDepth 100000 in
set_option maxHeartbeats 4000000 in
theorem rthousand1 (n : Nat) (N : Int) (hN : N = n) (h0 : 0 < n) (hn : n < 1000) (w : World) : Calls Tryd.prog 35 #[.int .i64 2, .int .i64 N] w fun e w' => ∃ v, e = .returned v ∧ OwnS w' w.heap.size v (rthousand 1 n) ∧ Below w.heap.size w w' := by
  subst hN
  have CS := Lib.hid (fun W => rsmall1 n false n rfl h0 hn W)
  obtain ⟨x, hx, zx⟩ := rs1 h0 hn false
  have HE := Lib.hid (show rthousand 1 n = [x ++ tausend] from by unfold rthousand; rw [if_pos rfl, hx]; rfl)
  rw [hx] at CS
  have zc : (bs x).size ≤ 90 := by rw [bs_size]; exact zx
  generalize rthousand 1 n = D at *
  clear hx
  go_enter Tryd.func35, Tryd.ntmps35
  go_wp2_with fail
  with_reducible refine Calls.mono (CS.out _) ?_
  rintro e w2 ⟨v, rfl, ho, hb⟩
  obtain ⟨oh, ch, rfl, -, -, -, hsl⟩ := ho.form
  obtain ⟨bh, fh, rfl, hlh, hch⟩ := hsl.cells (by simp)
  have hc3 := hch 0 x rfl
  rw [Nat.add_zero] at hc3
  have BB := Lib.hid hb
  clear ho hb hsl hch
  go_wp2_with fail
  rw [show bs x ++ (⟨#[116, 97, 117, 115, 101, 110, 100]⟩ : ByteArray) = bs (x ++ tausend) from bs_append x tausend]
  go_ret
  exact ⟨_, rfl, by rw [HE.out]; exact made_own w2 [x ++ tausend] BB.out.size rfl rfl (by decide), BB.out.alloc BB.out.size _⟩
set_option maxRecDepth 100000 in
set_option maxHeartbeats 4000000 in
theorem rthousand2 (n : Nat) (N : Int) (hN : N = n) (h0 : 0 < n) (hn : n < 1000) (w : World) : Calls Tryd.prog 35 #[.int .i64 3, .int .i64 N] w fun e w' => ∃ v, e = .returned v ∧ OwnS w' w.heap.size v (rthousand 2 n) ∧ Below w.heap.size w w' := by
  subst hN
  have CS := Lib.hid (fun W => rsmall2 n false n rfl h0 hn W)
  by_cases h1 : n = 1
  · have h1b : ((n : Int) == 1) = true := by rw [h1]; rfl
    have HE := Lib.hid (show rthousand 2 n = [mil] from by rw [h1]; rfl)
    generalize rthousand 2 n = D at *
    clear h1
    go_enter Tryd.func35, Tryd.ntmps35
    go_wp2_with fail
    with_reducible refine Calls.mono (CS.out _) ?_
    rintro e w2 ⟨v, rfl, ho, hb⟩
    have BB := Lib.hid hb
    clear ho hb
    go_wp2_with fail
    go_ret
    exact ⟨_, rfl, by rw [HE.out]; exact made_own w2 [mil] BB.out.size rfl rfl (by decide), BB.out.alloc BB.out.size _⟩
  · have h1b : ((n : Int) == 1) = false := by simp; omega
    have HL := Lib.hid (rs_len 2 (by decide) hn false)
    have HE := Lib.hid (show rthousand 2 n = rsmall 2 n false ++ [mil] from by unfold rthousand; rw [if_neg (by decide), if_pos rfl, if_neg h1])
    generalize rthousand 2 n = D at *
    generalize rsmall 2 n false = R at *
    go_enter Tryd.func35, Tryd.ntmps35
    go_wp2_with fail
    with_reducible refine Calls.mono (CS.out _) ?_
    rintro e w2 ⟨v, rfl, ho, hb⟩
    have HO := Lib.hid ho
    have BB := Lib.hid hb
    clear ho hb
    go_wp2_with (at_builtin; refine wpList_append_strs rfl _ _ rfl rfl w.heap.size v R rfl (HO.out.next ((Below.refl _ _).alloc (Nat.le_refl _) _)) (some ⟨w2.heap.size, 0, none⟩) 1 1 [mil] rfl rfl (fun h => by cases h) (ssl_new _ _ [mil]) (by have := HL.out; first | (simp; done) | (simp; omega) | omega) (by have := BB.out.size; first | (simp; done) | (simp; omega)) ?_; intro V9 w9 ho hg; have HO9 := Lib.hid ho; have BB9 := Lib.hid (grown_below BB.out hg HO.out.block); clear ho hg)
    go_ret
    exact ⟨_, rfl, by rw [HE.out]; exact HO9.out, BB9.out⟩
end Wo
end Go.Proofs.YtebdpdmkehfgfaaDoor
set_option linter.unusedVariables false
set_option linter.unusedSimpArgs false
namespace Go.Proofs.YtebdpdmkehfgfaaDoor
open Go.RowKit
namespace Wo
theorem rsmall_any (k : Nat) (L : Int) (hk : k < 3) (hL : L = 1 + k) (n : Nat) (ends : Bool) (N : Int) (hN : N = n) (h0 : 0 < n) (hn : n < 1000) (w : World) : Calls Tryd.prog 36 #[.int .i64 L, .int .i64 N, .bool ends] w fun e w' => ∃ v, e = .returned v ∧ OwnS w' w.heap.size v (rsmall k n ends) ∧ Below w.heap.size w w' := by
  subst hL
  rcases (show k = 0 ∨ k = 1 ∨ k = 2 by omega) with rfl | rfl | rfl
  · exact rsmall0 n ends N hN h0 hn w
  · exact rsmall1 n ends N hN h0 hn w
  · exact rsmall2 n ends N hN h0 hn w
theorem rthousand_any (k : Nat) (L : Int) (hk : k < 3) (hL : L = 1 + k) (n : Nat) (N : Int) (hN : N = n) (h0 : 0 < n) (hn : n < 1000) (w : World) : Calls Tryd.prog 35 #[.int .i64 L, .int .i64 N] w fun e w' => ∃ v, e = .returned v ∧ OwnS w' w.heap.size v (rthousand k n) ∧ Below w.heap.size w w' := by
  subst hL
  rcases (show k = 0 ∨ k = 1 ∨ k = 2 by omega) with rfl | rfl | rfl
  · exact rthousand0 n N hN h0 hn w
  · exact rthousand1 n N hN h0 hn w
  · exact rthousand2 n N hN h0 hn w
theorem rt_len (k : Nat) (hk : k < 3) {n : Nat} (hn : n < 1000) : (rthousand k n).length ≤ 30 := by
  have h := fun k (hk : k < 3) => rs_len k hk hn false
  unfold rthousand
  split
  · simp
  · split
    · split
      · simp
      · rw [List.length_append]
        have := h 2 (by decide)
        simp only [List.length_cons, List.length_nil]
        omega
    · rw [List.length_append]
      have := h 0 (by decide)
      simp only [List.length_cons, List.length_nil]
      omega
/-- what a slice of words that one may read holds -/
def Vw (w : World) (v : Value) (l : List B) : Prop := ∃ o c, v = .slice o l.length c ∧ l.length ≤ c ∧ c ≤ 9223372036854775807 ∧ (o = none → c = 0) ∧ SSl w o l
theorem Vw.next {w w' : World} {v : Value} {l : List B} (h : Vw w v l) (hb : Below w.heap.size w w') : Vw w' v l := by
  obtain ⟨o, c, h1, h2, h3, h4, h5⟩ := h
  exact ⟨o, c, h1, h2, h3, h4, h5.next hb⟩
theorem OwnS.vw {w : World} {B0 : Nat} {v : Value} {l : List B} (h : OwnS w B0 v l) : Vw w v l := by
  obtain ⟨o, c, h1, h2, h3, h4, h5⟩ := h.form
  exact ⟨o, c, h1, h2, h3, h4, h5⟩
set_option maxRecDepth 100000 in
set_option maxHeartbeats 4000000 in
theorem rWords_k (k : Nat) (L N : Int) (n : Nat) (hk : k < 3) (hL : L = 1 + k) (hN : N = n) (hn : n < 1000000) (w : World) : Calls Tryd.prog 13 #[.int .i64 L, .int .i64 N] w fun e w' => ∃ v, e = .returned (.tuple #[v, .int .i64 0]) ∧ Vw w' v (words k n) ∧ Below w.heap.size w w' := by
  subst hN
  have L1 : ¬ L < 1 := by omega
  have L2 : ¬ 3 < L := by omega
  have n1 : ¬ 999999 < (n : Int) := by omega
  rw [← rwords_is hk hn]
  have BB := Lib.hid (Below.refl w.heap.size w)
  by_cases h0 : n = 0
  · have h0b : ((n : Int) == 0) = true := by rw [h0]; rfl
    have HE := Lib.hid (show rwords k n = (ones k).take 1 from by
      rw [h0]
      rcases (show k = 0 ∨ k = 1 ∨ k = 2 by omega) with rfl | rfl | rfl <;> rfl)
    have LO := Lib.hid (ones_len hk)
    have CU := Lib.hid (fun W => runits k L hk hL W)
    generalize rwords k n = D at *
    clear h0 hL
    go_enter Tryd.func13, Tryd.ntmps13
    go_wp2_with fail
    with_reducible refine Calls.mono (CU.out _) ?_
    rintro e w2 ⟨b, rfl, hS, hb⟩
    have SU := Lib.hid hS
    replace BB := Lib.hid hb
    clear hS hb
    go_wp2_with fail
    go_ret2
    exact ⟨_, rfl, by rw [HE.out]; exact ⟨some ⟨b, 0, none⟩, 20, by rw [List.length_take, LO.out]; rfl, by rw [List.length_take, LO.out]; decide, by decide, fun h => (by cases h), SU.out.take 1⟩, BB.out⟩
  · have h0b : ((n : Int) == 0) = false := by simp; omega
    obtain ⟨q, hq⟩ : ∃ q, n / 1000 = q := ⟨_, rfl⟩
    obtain ⟨r, hr⟩ : ∃ r, n % 1000 = r := ⟨_, rfl⟩
    have qi : (n : Int) / 1000 = q := by omega
    have ri : (n : Int) % 1000 = r := by omega
    have HD := Lib.hid (show rwords k n = (if n ≥ 1000 then rthousand k q else []) ++ (if r > 0 then rsmall k r true else []) from by
      unfold rwords
      rw [if_neg h0, hq, hr])
    generalize rwords k n = D at *
    have q999 : q < 1000 := by omega
    have r999 : r < 1000 := by omega
    by_cases hbig : 1000 ≤ n
    · have hbi : (1000 : Int) ≤ n := by omega
      have CT := Lib.hid (fun W => rthousand_any k L hk hL q q rfl (by omega) q999 W)
      have HTL := Lib.hid (rt_len k hk q999)
      replace HD := Lib.hid (HD.out.trans (by rw [if_pos hbig]))
      by_cases h1 : 0 < r
      · have h1i : (0 : Int) < r := by omega
        have CS := Lib.hid (fun W => rsmall_any k L hk hL r true r rfl h1 r999 W)
        have HSL := Lib.hid (rs_len k hk r999 true)
        replace HD := Lib.hid (HD.out.trans (by rw [if_pos h1]))
        generalize rthousand k q = P at *
        generalize rsmall k r true = R at *
        clear h0 hL hq hr
        go_enter Tryd.func13, Tryd.ntmps13
        go_wp2_with fail
        with_reducible refine Calls.mono (CT.out _) ?_
        rintro e w2 ⟨v, rfl, ho, hb⟩
        obtain ⟨oP, cP, rfl, -, -, ncP, hsl⟩ := ho.form
        have SP := Lib.hid hsl
        have NP := Lib.hid ncP
        replace BB := Lib.hid hb
        clear ho hb hsl ncP
        go_wp2_with (at_builtin; refine wpList_append_strs rfl _ _ rfl rfl w.heap.size (.slice none 0 0) [] rfl (ownS_nil _ _) oP P.length cP P rfl rfl NP.out SP.out (by have := HTL.out; first | (simp; done) | (simp; omega)) BB.out.size ?_; intro V3 w3 ho hg; have HO3 := Lib.hid ho; have BB3 := Lib.hid (BB.out.grown hg BB.out.size (ownS_nil w w.heap.size).block); clear ho hg)
        with_reducible refine Calls.mono (CS.out _) ?_
        rintro e w4 ⟨v, rfl, ho, hb⟩
        obtain ⟨oR, cR, rfl, -, -, ncR, hsl⟩ := ho.form
        have SR := Lib.hid hsl
        have NR := Lib.hid ncR
        have HO4 := Lib.hid (HO3.out.next hb)
        have BB4 := Lib.hid (Below.andThen BB3.out hb)
        clear ho hb hsl ncR
        go_wp2_with (at_builtin; refine wpList_append_strs rfl _ _ rfl rfl w.heap.size V3 ([] ++ P) rfl HO4.out oR R.length cR R rfl rfl NR.out SR.out (by have := HTL.out; have := HSL.out; first | (simp; done) | (simp; omega)) BB4.out.size ?_; intro V5 w5 ho hg; have HO5 := Lib.hid ho; have BB5 := Lib.hid (BB4.out.grown hg BB4.out.size HO4.out.block); clear ho hg)
        go_ret2
        exact ⟨_, rfl, by rw [HD.out]; exact HO5.out.vw, BB5.out⟩
      · obtain rfl : r = 0 := by omega
        replace HD := Lib.hid (HD.out.trans (by rw [if_neg h1]))
        have ri0 : (n : Int) % 1000 = 0 := by omega
        generalize rthousand k q = P at *
        clear h0 hL hq hr ri
        go_enter Tryd.func13, Tryd.ntmps13
        go_wp2_with fail
        with_reducible refine Calls.mono (CT.out _) ?_
        rintro e w2 ⟨v, rfl, ho, hb⟩
        obtain ⟨oP, cP, rfl, -, -, ncP, hsl⟩ := ho.form
        have SP := Lib.hid hsl
        have NP := Lib.hid ncP
        replace BB := Lib.hid hb
        clear ho hb hsl ncP
        go_wp2_with (at_builtin; refine wpList_append_strs rfl _ _ rfl rfl w.heap.size (.slice none 0 0) [] rfl (ownS_nil _ _) oP P.length cP P rfl rfl NP.out SP.out (by have := HTL.out; first | (simp; done) | (simp; omega)) BB.out.size ?_; intro V3 w3 ho hg; have HO3 := Lib.hid ho; have BB3 := Lib.hid (BB.out.grown hg BB.out.size (ownS_nil w w.heap.size).block); clear ho hg)
        go_ret2
        exact ⟨_, rfl, by rw [HD.out, List.append_nil]; exact HO3.out.vw, BB3.out⟩
    · have hbi : ¬ (1000 : Int) ≤ n := by omega
      obtain rfl : r = n := by omega
      have h1 : 0 < r := by omega
      have h1i : (0 : Int) < r := by omega
      have CS := Lib.hid (fun W => rsmall_any k L hk hL r true r rfl h1 r999 W)
      have HSL := Lib.hid (rs_len k hk r999 true)
      replace HD := Lib.hid (HD.out.trans (by rw [if_pos h1, if_neg hbig]))
      generalize rsmall k r true = R at *
      clear h0 hL hq hr
      go_enter Tryd.func13, Tryd.ntmps13
      go_wp2_with fail
      with_reducible refine Calls.mono (CS.out _) ?_
      rintro e w4 ⟨v, rfl, ho, hb⟩
      obtain ⟨oR, cR, rfl, -, -, ncR, hsl⟩ := ho.form
      have SR := Lib.hid hsl
      have NR := Lib.hid ncR
      replace BB := Lib.hid hb
      clear ho hb hsl ncR
      go_wp2_with (at_builtin; refine wpList_append_strs rfl _ _ rfl rfl w.heap.size (.slice none 0 0) [] rfl (ownS_nil _ _) oR R.length cR R rfl rfl NR.out SR.out (by have := HSL.out; first | (simp; done) | (simp; omega)) BB.out.size ?_; intro V3 w3 ho hg; have HO3 := Lib.hid ho; have BB3 := Lib.hid (BB.out.grown hg BB.out.size (ownS_nil w w.heap.size).block); clear ho hg)
      go_ret2
      exact ⟨_, rfl, by rw [HD.out]; exact HO3.out.vw, BB3.out⟩
end Wo
end Go.Proofs.YtebdpdmkehfgfaaDoor
