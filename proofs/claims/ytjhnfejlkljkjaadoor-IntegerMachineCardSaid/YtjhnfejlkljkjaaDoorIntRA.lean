/- The reference implementation: trim, text, Made. -/
import Derived.Test.YtjhnfejlkljkjaaDoorIntRM
import Derived.Test.YtjhnfejlkljkjaaDoorIntP
namespace Go.Proofs.YtjhnfejlkljkjaaDoor
open Go.RowKit

/-- a slice holds the decimal digits of a natural number -/
structure DSl (w : World) (v : Value) (n : Nat) : Prop where
  ex : ∃ o c, v = .slice o (In.dg n).length c ∧ (In.dg n).length ≤ c ∧ c ≤ 9223372036854775807 ∧ (o = none → c = 0) ∧ LSl w o (In.dg n)
theorem DSl.next {w w' : World} {v : Value} {n : Nat} (h : DSl w v n) (hb : Below w.heap.size w w') : DSl w' v n := by
  obtain ⟨o, c, rfl, h1, h2, h3, h4⟩ := h.ex
  exact ⟨o, c, rfl, h1, h2, h3, h4.next hb⟩
theorem DSl.mk' {w : World} {o : Option Addr} {c n L : Nat} (hL : (In.dg n).length = L) (h1 : L ≤ c) (h2 : c ≤ 9223372036854775807) (h3 : o = none → c = 0) (h4 : LSl w o (In.dg n)) : DSl w (.slice o L c) n := by
  subst hL
  exact ⟨o, c, rfl, h1, h2, h3, h4⟩
theorem dsl_zero (w : World) : DSl w (.slice none 0 0) 0 := ⟨none, 0, rfl, Nat.le_refl _, by decide, fun _ => rfl, .inl rfl⟩

set_option maxRecDepth 100000 in
set_option maxHeartbeats 1000000 in
theorem rtrim_any (o : Option Addr) (L c : Nat) (l : List Nat) (w : World) (hL : l.length = L) (hl : ∀ x ∈ l, x < 10) (hc : L ≤ c) (hc2 : c ≤ 9223372036854775807) (ho : o = none → c = 0) (hS : LSl w o l) :
    Calls Tryd.prog 38 #[.slice o L c] w fun e w' => ∃ k, e = .returned (.slice o k c) ∧ DSl w' (.slice o k c) (In.nv 10 l) ∧ Below w.heap.size w w' := by
  have HS := Lib.hid hS
  have HL := Lib.hid hL
  have HX := Lib.hid hl
  clear hS hL hl
  go_enter Tryd.func38, Tryd.ntmps38
  go_wp2
  go_loopw [0] (fun v wr => ∃ k, v = .slice o k c ∧ k ≤ L ∧ (∀ j x, k ≤ j → l[j]? = some x → x = 0) ∧ Below w.heap.size w wr) (fun v _ => match v with | .slice _ n _ => n | _ => 0)
  case atStart => exact ⟨L, rfl, Nat.le_refl _, fun j x hj hx => by
    have := (List.getElem?_eq_some_iff.1 hx).1
    rw [HL.out] at this
    omega, Below.refl _ _⟩
  case round =>
    obtain ⟨k, rfl, hk, hz, hB⟩ := hrel
    have HZ := Lib.hid hz
    have HB := Lib.hid hB
    clear hz hB
    by_cases h0 : k = 0
    · subst h0
      have HN := Lib.hid (show DSl wr (.slice o 0 c) (In.nv 10 l) from by
        have e := In.dg_trim HX.out (by omega) HZ.out (.inl rfl)
        rw [List.take_zero] at e
        exact DSl.mk' (by rw [e]; rfl) (by omega) hc2 ho (by rw [e]; exact .inl rfl))
      go_wp2
      go_ret
      exact ⟨_, rfl, HN.out, HB.out⟩
    · obtain ⟨m, rfl⟩ : ∃ m, k = m + 1 := ⟨k - 1, by omega⟩
      obtain ⟨x, hx⟩ : ∃ x, l[m]? = some x := ⟨_, List.getElem?_eq_getElem (by rw [HL.out]; omega)⟩
      have HXX := Lib.hid hx
      rcases (HS.out.next HB.out) with h | ⟨b, off, rfl, hb, hcell⟩
      · rw [h] at hx; simp at hx
      have c1 := hcell m x hx
      clear hx hcell
      by_cases hx0 : x = 0
      · have HZ2 := Lib.hid (show ∀ j y, m ≤ j → l[j]? = some y → y = 0 from fun j y hj hy => by
          rcases Nat.lt_or_ge m j with h | h
          · exact HZ.out j y h hy
          · obtain rfl : j = m := by omega
            rw [HXX.out] at hy
            rw [← Option.some.inj hy, hx0])
        subst hx0
        go_wp2_with fail
        refine ⟨⟨m, rfl, by omega, HZ2.out, HB.out⟩, by simp⟩
      · have HN := Lib.hid (show DSl wr (.slice (some ⟨b, off, none⟩) (m + 1) c) (In.nv 10 l) from by
          have e := In.dg_trim (k := m + 1) HX.out (by rw [HL.out]; exact hk) HZ.out (.inr ⟨x, HXX.out, hx0⟩)
          exact DSl.mk' (by rw [e, List.length_take, HL.out]; omega) (by omega) hc2 (fun h => by cases h) (by rw [e]; exact (HS.out.next HB.out).take _))
        have d1 : decide ((x : Int) = 0) = false := by simp; omega
        have d2 : ((x : Int) == 0) = false := by simp; omega
        go_wp2_with fail
        go_ret
        exact ⟨_, rfl, HN.out, HB.out⟩

abbrev byteV (x : UInt8) : Value := .int .u8 x.toNat
theorem infoByte : (Tryd.prog.info? 5).map (fun i => (i.zero, i.size, i.bytes)) = some (some (.int .u8 0), 1, 1) := by kernel_rfl
theorem cells_new (w : World) (C : List Value) (t : TypeId) : ∀ j u, C[j]? = some u → (w.alloc (.cells C.toArray t)).cell? ((⟨w.heap.size, 0, none⟩ : Addr).add j) = some u := by
  intro j u hj
  have e : Addr.add ⟨w.heap.size, 0, none⟩ j = ⟨w.heap.size, j, none⟩ := by unfold Addr.add; split <;> simp_all
  rw [e, (Row.new w t C).cell j]
  exact hj
theorem own_is {W : World} {b n m : Nat} {e : TypeId} {size : Nat} {v : Value} {xs ys : List Value} (h : W.ownsRow b e size v n xs) (hn : n = m) (hx : xs = ys) : W.ownsRow b e size v m ys := by subst hn hx; exact h
theorem conv_own {w : World} {B n : Nat} {v : Value} {l : List UInt8} (h : w.ownsRow B 5 1 v n (l.map byteV)) (hl : l.length = n) (h0 : l ≠ []) :
    ∃ o c, v = .slice o n c ∧ (convert 72 9 (.slice o n c)).run Tryd.prog w = .ok (.string ⟨l.toArray⟩) w := by
  subst hl
  have h' := h
  rcases h.2 with ⟨_, h1⟩ | ⟨g, cap, cur, rfl, _⟩
  · exact absurd (List.eq_nil_of_length_eq_zero h1) h0
  · refine ⟨_, cap, rfl, run_convert_bytes_back w 72 9 5 ⟨g, 0, none⟩ cap l Tryd.underlying72 Tryd.underlying5 Tryd.underlying9 fun j hj => ?_⟩
    exact h'.cells (g := g) rfl j _ (by rw [List.getElem?_map, List.getElem?_eq_getElem hj]; rfl)
abbrev chr (d : Nat) : UInt8 := UInt8.ofNat (48 + d)
abbrev preL (s : Bool) : List UInt8 := if s = true then [45] else []
theorem txt_sgn {n : Nat} (s : Bool) (h : n ≠ 0) : In.txtL (In.sgn n s) = preL s ++ ((In.dg n).map chr).reverse := by
  rw [← In.dg_dec n h]
  unfold In.txtL Lib.itoa
  cases s
  · rw [show In.sgn n false = (n : Int) from rfl, if_neg (by omega), Int.toNat_natCast]
    rfl
  · rw [show In.sgn n true = -(n : Int) from rfl, if_pos (by omega), Int.natAbs_neg, Int.natAbs_natCast]
    rfl
set_option maxRecDepth 100000 in
set_option maxHeartbeats 2000000 in
theorem rtext_any (u : Value) (n : Nat) (s : Bool) (w : World) (hu : DSl w u n) (hl : (In.dg n).length ≤ 1000) :
    Calls Tryd.prog 37 #[.bool s, u] w fun e w' => e = .returned (.tuple #[.string (In.txt (In.sgn n s)), .bool (decide ((In.dg n).length ≤ 200))]) ∧ Below w.heap.size w w' := by
  obtain ⟨o, c, rfl, a1, a2, a3, a4⟩ := hu.ex
  obtain ⟨i0, hi, hz0, hz1, hz2⟩ := info_parts infoByte
  by_cases h0 : n = 0
  · subst h0
    have e0 : (In.dg 0).length = 0 := rfl
    have et : In.txt (In.sgn 0 s) = ⟨#[48]⟩ := by
      have : In.sgn 0 s = 0 := by unfold In.sgn; split <;> rfl
      rw [this]
      apply ba_ext
      rw [In.txt_list]
      unfold In.txtL Lib.itoa
      rw [if_neg (by decide)]
      exact In.dec_zero
    rw [et, e0, decide_eq_true (by decide)]
    clear hu a4 a1 e0 et hl
    go_enter Tryd.func37, Tryd.ntmps37
    go_wp2_with fail
    go_ret2
    exact ⟨rfl, Below.refl _ _⟩
  obtain ⟨L, hL⟩ : ∃ L, (In.dg n).length = L := ⟨_, rfl⟩
  obtain ⟨D, hD⟩ : ∃ D, D = ((In.dg n).map chr).reverse := ⟨_, rfl⟩
  have hDL : D.length = L := by rw [hD, List.length_reverse, List.length_map, hL]
  have hT := txt_sgn s h0
  rw [← hD] at hT
  have HT := Lib.hid hT
  have HD := Lib.hid (And.intro hD hDL)
  have HA := Lib.hid a4
  have HL := Lib.hid hL
  have hLp : 0 < L := by
    rcases Nat.eq_zero_or_pos L with h | h
    · exact absurd (In.dg_nil.1 (by rw [hL, h])) h0
    · exact h
  rw [hL] at hl a1 ⊢
  have d0 : ((L : Int) == 0) = false := by rw [beq_eq_false_iff_ne]; omega
  obtain ⟨S, hS⟩ : ∃ S, S = In.txt (In.sgn n s) := ⟨_, rfl⟩
  rw [← hS]
  have HSS := Lib.hid hS
  obtain ⟨B2, hB2⟩ : ∃ B, B = decide (L ≤ 200) := ⟨_, rfl⟩
  rw [← hB2]
  have HB2 := Lib.hid hB2
  clear hu a4 hL hD hDL hT hS hB2
  go_enter Tryd.func37, Tryd.ntmps37
  go_upto_if 11 with (fail)
  go_cut [6] (fun v wx => wx.ownsRow w.heap.size 5 1 v (preL s).length ((preL s).map byteV) ∧ Below w.heap.size w wx)
  case first =>
    cases s
    · go_wp2_with fail
      go_meet
      exact ⟨World.ownsRow_nil _ _ _ _, Below.refl _ _⟩
    · go_wp2_with (at_builtin; refine wpList_append_own _ rfl _ _ 72 rfl w.heap.size 5 i0 (.int .u8 0) 1 1 Tryd.underlying72 hi hz0 hz1 hz2 rfl (by decide) (.slice none 0 0) 0 [] rfl (World.ownsRow_nil _ _ _ _) ⟨w.heap.size, 0, none⟩ 1 1 [.int .u8 45] rfl rfl (cells_new _ _ _) (by simp [Value.oneCell']) (by unfold maxLen; omega) (by omega) (by simp) ?_; intro v' w1 hown' hgrow _; have K := Lib.hid (And.intro hown' hgrow); clear hown' hgrow)
      go_meet
      exact ⟨own_is K.out.1 rfl rfl, ((Below.refl _ _).alloc (Nat.le_refl _) _).grown K.out.2 (by simp) (fun k hk => by cases hk)⟩
  obtain ⟨hown, hB0⟩ := hcut
  rename World => wc
  have HO := Lib.hid (And.intro hown hB0)
  clear hown hB0
  have e1 : (L : Int) - 1 = ((L - 1 : Nat) : Int) := by omega
  go_wp2_with fail
  clear e1
  go_loopw [6, 7] (fun v iv wr => ∃ k : Nat, k ≤ L ∧ iv = .int .i64 ((k : Int) - 1) ∧ wr.ownsRow w.heap.size 5 1 v (preL s ++ D.take (L - k)).length ((preL s ++ D.take (L - k)).map byteV) ∧ Below w.heap.size w wr) (fun _ iv _ => (intOf iv + 1).toNat)
  case atStart => exact ⟨L, Nat.le_refl _, by first | rfl | go_num, by rw [Nat.sub_self, List.take_zero, List.append_nil]; exact HO.out.1, HO.out.2⟩
  case round =>
    obtain ⟨k, hk, rfl, hrow, hB⟩ := hrel
    clear HO
    cases k with
    | zero =>
      rw [show ((0 : Nat) : Int) - 1 = -1 from rfl]
      rw [Nat.sub_zero, List.take_of_length_le (by rw [HD.out.2]; exact Nat.le_refl _), ← HT.out] at hrow
      obtain ⟨ov, cv, rfl, hcv⟩ := conv_own hrow rfl (by rw [HT.out]; intro h; have := congrArg List.length h; rw [List.length_append, HD.out.2] at this; simp at this; omega)
      rw [show (⟨(In.txtL (In.sgn n s)).toArray⟩ : ByteArray) = S from by rw [HSS.out]; rfl] at hcv
      generalize (In.txtL (In.sgn n s)).length = ln at *
      have HB := Lib.hid hB
      clear hB hrow
      by_cases h200 : L ≤ 200
      · obtain rfl : B2 = true := by rw [HB2.out, decide_eq_true h200]
        have d2 : decide ((L : Int) ≤ 200) = true := by rw [decide_eq_true_eq]; omega
        go_wp2_with fail
        go_ret2
        exact ⟨rfl, HB.out⟩
      · obtain rfl : B2 = false := by rw [HB2.out, decide_eq_false h200]
        have d2 : decide ((L : Int) ≤ 200) = false := by rw [decide_eq_false_iff_not]; omega
        go_wp2_with fail
        go_ret2
        exact ⟨rfl, HB.out⟩
    | succ m =>
      rw [show ((m + 1 : Nat) : Int) - 1 = (m : Int) by omega]
      have hmL : m < (In.dg n).length := by rw [HL.out]; omega
      obtain ⟨x, hx⟩ : ∃ x, (In.dg n)[m]? = some x := ⟨_, List.getElem?_eq_getElem hmL⟩
      have lx : x < 10 := In.dg_lt n x (List.mem_of_getElem? hx)
      rcases (HA.out.next hB) with h | ⟨b, off, rfl, hb, hcell⟩
      · rw [h] at hx; simp at hx
      have c1 := hcell m x hx
      have HN := Lib.hid (show D.take (L - m) = D.take (L - (m + 1)) ++ [chr x] from by
        rw [show L - m = L - (m + 1) + 1 by omega, List.take_add_one]
        have : D[L - (m + 1)]? = some (chr x) := by
          rw [HD.out.1, List.getElem?_reverse (by rw [List.length_map, HL.out]; omega), List.length_map, List.getElem?_map, HL.out, show L - 1 - (L - (m + 1)) = m by omega, hx]
          rfl
        rw [this]
        rfl)
      have hlen : (preL s ++ D.take (L - (m + 1))).length ≤ 1002 := by
        rw [List.length_append, List.length_take]
        have : (preL s).length ≤ 1 := by cases s <;> decide
        omega
      have HR := Lib.hid (And.intro hrow hB)
      have hob := Lib.hid (own_block hrow)
      have hbs := hB.size
      have w1 : IntKind.u8.wrap (48 + (x : Int)) = 48 + (x : Int) := by simp [IntKind.wrap, IntKind.bits, IntKind.signed]; omega
      have hmL2 : m < L := by omega
      clear hx hcell hrow hB hmL
      generalize hQ : preL s ++ D.take (L - (m + 1)) = Q at *
      have HQ := Lib.hid hQ
      clear hQ
      go_wp2_with (at_builtin; refine wpList_append_own _ rfl _ _ 72 rfl w.heap.size 5 i0 (.int .u8 0) 1 1 Tryd.underlying72 hi hz0 hz1 hz2 rfl (by decide) _ _ _ rfl (HR.out.1.alloc _) ⟨wr.heap.size, 0, none⟩ 1 1 [.int .u8 (48 + (x : Int))] rfl rfl (cells_new _ _ _) (by simp [Value.oneCell']) (by unfold maxLen; omega) (by omega) (by simp; omega) ?_; intro v' w1' hown' hgrow _; have K := Lib.hid (And.intro hown' hgrow); clear hown' hgrow)
      go_roundw
      case rel =>
        refine ⟨m, by omega, by go_num, ?_, (HR.out.2.alloc hbs _).grown K.out.2 (by simp; omega) hob.out⟩
        refine own_is K.out.1 ?_ ?_
        · rw [HN.out, ← List.append_assoc, HQ.out, List.length_append]; rfl
        · rw [HN.out, ← List.append_assoc, HQ.out, List.map_append]
          congr 1
          have := (In.ofNat_dig lx).2.2
          simp only [List.map_cons, List.map_nil, byteV, chr]
          rw [this]
          simp
      case measure =>
        show ((m : Int) - 1 + 1).toNat < ((m : Int) + 1).toNat
        omega
end Go.Proofs.YtjhnfejlkljkjaaDoor
