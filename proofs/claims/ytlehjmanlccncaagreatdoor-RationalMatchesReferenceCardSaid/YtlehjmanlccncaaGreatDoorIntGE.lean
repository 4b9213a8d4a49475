/- The reference implementation: Made. -/
/- The reference implementation's loops over decimal digits: products, quotients, roots, as mathematics. -/
/- The reference implementation: order. -/
/- The reference implementation: sums, differences. -/
/- The reference implementation: differences, products. -/
/- The reference implementation: products. -/
import Derived.Test.YtlehjmanlccncaaGreatDoorIntGD
import Derived.Test.YtlehjmanlccncaaGreatDoorFloatG
import Derived.Test.YtlehjmanlccncaaGreatDoorIntGA
set_option linter.unusedVariables false
set_option linter.unusedSimpArgs false
namespace Go.Proofs.YtlehjmanlccncaaGreatDoor
open Go.RowKit

/-- the digits that a string determines, and its sign -/
def madeL (s : ByteArray) (m : Nat) : List Nat := (s.data.toList.take m).map fun c => c.toNat % 10
def highB (s : ByteArray) : Bool := match s.data.toList.head? with | some c => decide (128 ≤ c.toNat) | none => false
def madeZ (s : ByteArray) (m : Nat) : Int := In.sgn (In.nv 10 (madeL s m)) (highB s)
theorem madeL_lt (s : ByteArray) (m : Nat) : ∀ x ∈ madeL s m, x < 10 := by
  intro x hx
  obtain ⟨c, _, rfl⟩ := List.mem_map.1 hx
  exact Nat.mod_lt _ (by decide)
theorem madeL_len (s : ByteArray) (m : Nat) : (madeL s m).length = min m s.size := by
  unfold madeL
  rw [List.length_map, List.length_take, ← Lib.size_eq]
theorem madeZ_lt (s : ByteArray) (m : Nat) : (madeZ s m).natAbs < 10 ^ m := by
  unfold madeZ
  rw [In.sgn_abs]
  refine Nat.lt_of_lt_of_le (In.nv_lt _ (madeL_lt s m)) (Nat.pow_le_pow_right (by decide) ?_)
  rw [madeL_len]
  omega
theorem madeZ_fit {s : ByteArray} {m : Nat} (h : m ≤ 200) : In.Fit (madeZ s m) := Nat.lt_of_lt_of_le (madeZ_lt s m) (Nat.pow_le_pow_right (by decide) h)

/-- the slice that trim returns holds the digits before it is called -/
theorem dsl_pre {w : World} {o : Option Addr} {c L : Nat} {l : List Nat} (hl : ∀ x ∈ l, x < 10) (hL : l.length = L) (h1 : L ≤ c) (h2 : c ≤ 9223372036854775807) (h3 : o = none → c = 0) (h : LSl w o l) : DSl w (.slice o (In.dg (In.nv 10 l)).length c) (In.nv 10 l) := by
  obtain ⟨k, hk⟩ := In.gr_nv (B := 10) (by decide) l hl
  have hlen := congrArg List.length hk
  rw [List.length_append, List.length_replicate] at hlen
  have e : In.dg (In.nv 10 l) = l.take (In.dg (In.nv 10 l)).length := by
    have h5 : (In.dg (In.nv 10 l) ++ List.replicate k 0).take (In.dg (In.nv 10 l)).length = In.dg (In.nv 10 l) := List.take_left' rfl
    exact h5.symm.trans (congrArg (List.take _) hk.symm)
  refine DSl.mk' rfl (by show (In.gr 10 (In.nv 10 l)).length ≤ c; omega) h2 h3 ?_
  rw [e]
  exact h.take _
theorem rtrim_fix (o : Option Addr) (L c : Nat) (l : List Nat) (w : World) (hL : l.length = L) (hl : ∀ x ∈ l, x < 10) (hc : L ≤ c) (hc2 : c ≤ 9223372036854775807) (ho : o = none → c = 0) (hS : LSl w o l) :
    Calls Tryz.prog 101 #[.slice o L c] w fun e w' => e = .returned (.slice o (In.dg (In.nv 10 l)).length c) ∧ Below w.heap.size w w' :=
  (rtrim_any o L c l w hL hl hc hc2 ho hS).mono fun _ _ ⟨k, h1, h2, h3⟩ => by
    obtain ⟨o', c', e, _⟩ := h2.ex
    have hk : k = (In.dg (In.nv 10 l)).length := by injection e
    subst hk
    exact ⟨h1, h3⟩
end Go.Proofs.YtlehjmanlccncaaGreatDoor
set_option linter.unusedVariables false
set_option linter.unusedSimpArgs false
namespace Go.Proofs.YtlehjmanlccncaaGreatDoor
open Go.RowKit

namespace In
theorem nv_set {B : Nat} : ∀ {l : List Nat} {p x o : Nat}, l[p]? = some o → nv B (l.set p x) + B ^ p * o = nv B l + B ^ p * x := by
  intro l
  induction l with
  | nil => intro p x o h; simp at h
  | cons y l ih =>
    intro p x o h
    cases p with
    | zero =>
      obtain rfl : y = o := by simpa using h
      simp only [List.set_cons_zero, nv, Nat.pow_zero, Nat.one_mul]
      omega
    | succ p =>
      have h1 := ih (p := p) (x := x) (o := o) (by simpa using h)
      simp only [List.set_cons_succ, nv]
      have e1 : B ^ (p + 1) * o = B * (B ^ p * o) := by rw [Nat.pow_succ, Nat.mul_comm (B ^ p) B, Nat.mul_assoc]
      have e2 : B ^ (p + 1) * x = B * (B ^ p * x) := by rw [Nat.pow_succ, Nat.mul_comm (B ^ p) B, Nat.mul_assoc]
      have h2 := congrArg (B * ·) h1
      simp only [Nat.mul_add] at h2
      rw [e1, e2]
      omega
/-- one step of a product: the digit, and what is carried -/
theorem rmul_step {l : List Nat} {p c o t T : Nat} (ho : l[p]? = some o) (h : nv 10 l + 10 ^ p * c = T) : nv 10 (l.set p ((o + c + t) % 10)) + 10 ^ (p + 1) * ((o + c + t) / 10) = T + 10 ^ p * t := by
  have h1 := nv_set (B := 10) (x := (o + c + t) % 10) ho
  have h2 : o + c + t = (o + c + t) % 10 + 10 * ((o + c + t) / 10) := by omega
  generalize (o + c + t) % 10 = u at *
  generalize (o + c + t) / 10 = v at *
  have h3 := congrArg (10 ^ p * ·) h2
  simp only [Nat.mul_add] at h3
  have e : 10 ^ (p + 1) * v = 10 ^ p * (10 * v) := by rw [Nat.pow_succ, Nat.mul_assoc]
  rw [e]
  omega
/-- what the products of the digits before are -/
def mulT (a b i k : Nat) : Nat := a % 10 ^ i * b + a / 10 ^ i % 10 * (b % 10 ^ k) * 10 ^ i
theorem mulT_zero (a b i : Nat) : mulT a b i 0 = a % 10 ^ i * b := by unfold mulT; rw [Nat.pow_zero, Nat.mod_one]; omega
theorem mulT_next (a b i k : Nat) : mulT a b i k + 10 ^ (i + k) * (a / 10 ^ i % 10 * (b / 10 ^ k % 10)) = mulT a b i (k + 1) := by
  unfold mulT
  rw [mod_next b 10 k, Nat.pow_add, Nat.mul_add, Nat.add_mul]
  have e : 10 ^ i * 10 ^ k * (a / 10 ^ i % 10 * (b / 10 ^ k % 10)) = a / 10 ^ i % 10 * (10 ^ k * (b / 10 ^ k % 10)) * 10 ^ i := by ac_rfl
  rw [e]
  omega
theorem mulT_end {b k : Nat} (a i : Nat) (h : (dg b).length ≤ k) : mulT a b i k = a % 10 ^ (i + 1) * b := by
  unfold mulT
  rw [Nat.mod_eq_of_lt ((gr_len_iff (by decide) b k).1 h), mod_next a 10 i, Nat.add_mul]
  have e : a / 10 ^ i % 10 * b * 10 ^ i = 10 ^ i * (a / 10 ^ i % 10) * b := by ac_rfl
  rw [e]
theorem mulT_in {a b i k c V : Nat} (h : V + 10 ^ (i + k) * c = mulT a b i k) (hk : (dg b).length ≤ k) (hc : 0 < c) : k ≤ (dg b).length := by
  rw [mulT_end a i hk] at h
  have h1 : a % 10 ^ (i + 1) < 10 ^ (i + 1) := Nat.mod_lt _ (Nat.pow_pos (by decide))
  have h2 := dg_lt_pow b
  have h3 : a % 10 ^ (i + 1) * b < 10 ^ (i + 1) * 10 ^ (dg b).length := Nat.mul_lt_mul'' h1 h2
  rw [← Nat.pow_add] at h3
  have h4 : 10 ^ (i + k) * 1 ≤ 10 ^ (i + k) * c := Nat.mul_le_mul_left _ hc
  refine Nat.le_of_lt_succ (Nat.lt_of_not_le fun h5 => ?_)
  have h6 : 10 ^ (i + 1 + (dg b).length) ≤ 10 ^ (i + k) := Nat.pow_le_pow_right (by decide) (by omega)
  omega
theorem dg_mod {a k : Nat} (h : (dg a).length ≤ k) : a % 10 ^ k = a := Nat.mod_eq_of_lt ((gr_len_iff (by decide) a k).1 h)
theorem set_lt {l : List Nat} {p x : Nat} (h : ∀ y ∈ l, y < 10) (hx : x < 10) : ∀ y ∈ l.set p x, y < 10 := by
  intro y hy
  rcases List.mem_or_eq_of_mem_set hy with h1 | h1
  · exact h y h1
  · omega
theorem dg_len_le {a k : Nat} (h : a < 10 ^ k) : (dg a).length ≤ k := gr_len_le (by decide) _ _ h
theorem dg_mono {a b : Nat} (h : a ≤ b) : (dg a).length ≤ (dg b).length := dg_len_le (Nat.lt_of_le_of_lt h (dg_lt_pow b))
theorem dg_len_mul (a b : Nat) : (dg (a * b)).length ≤ (dg a).length + (dg b).length := by
  refine dg_len_le ?_
  rw [Nat.pow_add]
  exact Nat.mul_lt_mul'' (dg_lt_pow a) (dg_lt_pow b)
theorem dg_len_add (a b : Nat) : (dg (a + b)).length ≤ max (dg a).length (dg b).length + 1 := by
  refine dg_len_le ?_
  have h1 := dg_lt_pow a
  have h2 := dg_lt_pow b
  have h3 : 10 ^ (dg a).length ≤ 10 ^ (max (dg a).length (dg b).length) := Nat.pow_le_pow_right (by decide) (by omega)
  have h4 : 10 ^ (dg b).length ≤ 10 ^ (max (dg a).length (dg b).length) := Nat.pow_le_pow_right (by decide) (by omega)
  rw [Nat.pow_succ]
  omega
/-! ### quotients -/
theorem rquo_next {a b i : Nat} (hb : 0 < b) :
    a / 10 ^ i / b = a / 10 ^ (i + 1) / b * 10 + (a / 10 ^ (i + 1) % b * 10 + a / 10 ^ i % 10) / b ∧ a / 10 ^ i % b = (a / 10 ^ (i + 1) % b * 10 + a / 10 ^ i % 10) % b := by
  rw [div_up a 10 i]
  have h : (a / 10 ^ (i + 1) * 10 + a / 10 ^ i % 10) % 10 = a / 10 ^ i % 10 := by omega
  rw [h]
  exact div_step hb
theorem rquo_digit {a b i : Nat} (hb : 0 < b) : (a / 10 ^ (i + 1) % b * 10 + a / 10 ^ i % 10) / b < 10 := div_digit hb (Nat.mod_lt _ (by decide))
theorem nv_zeros_front (B k : Nat) (l : List Nat) : nv B (List.replicate k 0 ++ l) = B ^ k * nv B l := by
  rw [nv_append, nv_zeros, List.length_replicate, Nat.zero_add]
theorem nv_cons (B x : Nat) (l : List Nat) : nv B (x :: l) = x + B * nv B l := rfl
/-! ### roots -/
theorem rroot_next {a X P d : Nat} (h1 : (X + d * P) * (X + d * P) ≤ a) (h2 : d = 9 ∨ a < (X + (d + 1) * P) * (X + (d + 1) * P)) (h3 : a < (X + 10 * P) * (X + 10 * P)) : (X + d * P) * (X + d * P) ≤ a ∧ a < (X + d * P + P) * (X + d * P + P) := by
  refine ⟨h1, ?_⟩
  have e : X + d * P + P = X + (d + 1) * P := by rw [Nat.add_mul]; omega
  rw [e]
  rcases h2 with rfl | h2
  · exact h3
  · exact h2
theorem rroot_top (a : Nat) : a < 10 ^ (((dg a).length + 1) / 2) * 10 ^ (((dg a).length + 1) / 2) := by
  rw [← Nat.pow_add]
  exact Nat.lt_of_lt_of_le (dg_lt_pow a) (Nat.pow_le_pow_right (by decide) (by omega))
end In
end Go.Proofs.YtlehjmanlccncaaGreatDoor
set_option linter.unusedVariables false
set_option linter.unusedSimpArgs false
namespace Go.Proofs.YtlehjmanlccncaaGreatDoor
open Go.RowKit

set_option maxRecDepth 100000 in
set_option maxHeartbeats 1000000 in
theorem rorder_any (u v : Value) (a b : Nat) (w : World) (hu : DSl w u a) (hv : DSl w v b) (ha : (In.dg a).length ≤ 1000) (hb : (In.dg b).length ≤ 1000) :
    Calls Tryz.prog 82 #[u, v] w fun e w' => e = .returned (.int .i64 (In.cmpN a b)) ∧ Below w.heap.size w w' := by
  obtain ⟨o, c, rfl, a1, a2, a3, a4⟩ := hu.ex
  obtain ⟨o', c', rfl, b1, b2, b3, b4⟩ := hv.ex
  obtain ⟨M, hM⟩ : ∃ L, (In.dg a).length = L := ⟨_, rfl⟩
  obtain ⟨N, hN⟩ : ∃ L, (In.dg b).length = L := ⟨_, rfl⟩
  rw [hM] at ha a1 ⊢
  rw [hN] at hb b1 ⊢
  have HBR := Lib.hid (Below.refl w.heap.size w)
  by_cases hMN : M = N
  · subst hMN
    have HA := Lib.hid a4
    have HB := Lib.hid b4
    have HM := Lib.hid hM
    have HN := Lib.hid hN
    clear a4 b4 hM hN hu hv
    go_enter Tryz.func82, Tryz.ntmps82
    go_wp2_with fail
    go_loopw [5] (fun iv wr => ∃ k : Nat, k ≤ M ∧ iv = .int .i64 ((k : Int) - 1) ∧ a / 10 ^ k = b / 10 ^ k ∧ Below w.heap.size w wr) (fun iv _ => (intOf iv + 1).toNat)
    case atStart => exact ⟨M, Nat.le_refl _, rfl, by rw [← HM.out, In.dg_top, HM.out, ← HN.out, In.dg_top], HBR.out⟩
    case round =>
      obtain ⟨k, hk, rfl, heq, hB⟩ := hrel
      replace HA := Lib.hid (HA.out.next hB)
      replace HB := Lib.hid (HB.out.next hB)
      replace HBR := Lib.hid hB
      have HE := Lib.hid heq
      clear heq hB
      cases k with
      | zero =>
        have HR := Lib.hid (show In.cmpN a b = 0 from by
          have := HE.out
          rw [Nat.pow_zero, Nat.div_one, Nat.div_one] at this
          rw [this, In.cmpN_eq])
        rw [show ((0 : Nat) : Int) - 1 = -1 from rfl]
        go_wp2_with fail
        go_ret
        exact ⟨retv (vint HR.out.symm), HBR.out⟩
      | succ k =>
        rw [show ((k + 1 : Nat) : Int) - 1 = (k : Int) by omega]
        have hx := In.dg_at (n := a) (i := k) (by rw [HM.out]; omega)
        have hy := In.dg_at (n := b) (i := k) (by rw [HN.out]; omega)
        have HX2 := Lib.hid (fun (h : a / 10 ^ k % 10 < b / 10 ^ k % 10) => In.cmpN_lt (In.ord_digit HE.out h))
        have HY2 := Lib.hid (fun (h : b / 10 ^ k % 10 < a / 10 ^ k % 10) => In.cmpN_gt (In.ord_digit HE.out.symm h))
        have HQ := Lib.hid (fun (h : a / 10 ^ k % 10 = b / 10 ^ k % 10) => In.ord_next HE.out h)
        have lx : a / 10 ^ k % 10 < 10 := Nat.mod_lt _ (by decide)
        have ly : b / 10 ^ k % 10 < 10 := Nat.mod_lt _ (by decide)
        generalize a / 10 ^ k % 10 = x at *
        generalize b / 10 ^ k % 10 = y at *
        rcases HA.out with h | ⟨p, off, rfl, hp, hcell⟩
        · rw [h] at hx; simp at hx
        rcases HB.out with h | ⟨p', off', rfl, hp', hcell'⟩
        · rw [h] at hy; simp at hy
        have c1 := hcell k x hx
        have c2 := hcell' k y hy
        have c3 : wr.drew.cell? ⟨p, off + k, none⟩ = some (natV x) := c1
        have c4 : wr.drew.cell? ⟨p', off' + k, none⟩ = some (natV y) := c2
        clear hx hy hcell hcell' HE
        by_cases hxy : x = y
        · subst hxy
          have HQ2 := Lib.hid (HQ.out rfl)
          clear HX2 HY2 HQ
          go_upto_region 8 with (fail)
          refine wp_region_kin (by kernel_rfl) (by kernel_rfl) wr.heap.size 0 (by simp) (fun hk => ?_)
          repeat (go_big_quiet_step (fail))
          refine wpQuiet_nil ?_
          clear hk
          intro W2 hb
          have HB2 := Lib.hid (Below.andThen HBR.out hb)
          clear hb
          go_wp2_with fail
          refine ⟨⟨k, by omega, by first | rfl | go_num, HQ2.out, HB2.out⟩, by simp [intOf]⟩
        · have n1 : ¬ (x : Int) = y := by omega
          have n2 : decide ((x : Int) = y) = false := by simp; omega
          have n3 : ((x : Int) != y) = true := by simp; omega
          have hlt : (x < y ∧ In.cmpN a b = -1) ∨ (y < x ∧ In.cmpN a b = 1) := by
            rcases Nat.lt_or_ge x y with h | h
            · exact .inl ⟨h, HX2.out h⟩
            · exact .inr ⟨by omega, HY2.out (by omega)⟩
          clear HX2 HY2 HQ
          go_upto_region 8 with (fail)
          refine wp_region_kin (by kernel_rfl) (by kernel_rfl) wr.heap.size 0 (by simp) (fun hk => ?_)
          repeat (go_big_quiet_step (fail))
          refine wpQuiet_nil ?_
          clear hk
          intro W2 hb
          have HB2 := Lib.hid (Below.andThen HBR.out hb)
          have c5 := (hb.cell (p := ⟨p, off + k, none⟩) hp).trans c1
          have c6 := (hb.cell (p := ⟨p', off' + k, none⟩) hp').trans c2
          have c7 : W2.drew.cell? ⟨p, off + k, none⟩ = some (natV x) := c5
          have c8 : W2.drew.cell? ⟨p', off' + k, none⟩ = some (natV y) := c6
          have hp2 := Nat.lt_of_lt_of_le hp hb.size
          have hp3 := Nat.lt_of_lt_of_le hp' hb.size
          clear hb c1 c2 c3 c4 hp hp'
          rcases hlt with ⟨h, hv⟩ | ⟨h, hv⟩
          all_goals
            have HV := Lib.hid hv
            clear hv
            go_upto_region 9 with (fail)
            refine wp_region_kin (by kernel_rfl) (by kernel_rfl) W2.heap.size 0 (by simp) (fun hk => ?_)
            repeat (go_big_quiet_step (fail))
            refine wpQuiet_nil ?_
            clear hk
            intro W3 hb
            have HB3 := Lib.hid (Below.andThen HB2.out hb)
            clear hb
            go_wp2_with fail
            go_ret
            exact ⟨retv (vint HV.out.symm), HB3.out⟩
  · have n1 : ¬ (M : Int) = N := by omega
    have n2 : decide ((M : Int) = N) = false := by simp; omega
    have n3 : ((M : Int) != N) = true := by simp; omega
    have hlt : (M < N ∧ In.cmpN a b = -1) ∨ (N < M ∧ In.cmpN a b = 1) := by
      rcases Nat.lt_or_ge M N with h | h
      · exact .inl ⟨h, In.cmpN_lt (In.ord_len (by rw [hM, hN]; exact h))⟩
      · exact .inr ⟨by omega, In.cmpN_gt (In.ord_len (by rw [hM, hN]; omega))⟩
    generalize In.cmpN a b = R at *
    clear a4 b4 hM hN hu hv
    rcases hlt with ⟨h, rfl⟩ | ⟨h, rfl⟩
    · go_enter Tryz.func82, Tryz.ntmps82
      go_wp2_with fail
      go_ret
      exact ⟨rfl, HBR.out⟩
    · go_enter Tryz.func82, Tryz.ntmps82
      go_wp2_with fail
      go_ret
      exact ⟨rfl, HBR.out⟩
end Go.Proofs.YtlehjmanlccncaaGreatDoor
set_option linter.unusedVariables false
set_option linter.unusedSimpArgs false
namespace Go.Proofs.YtlehjmanlccncaaGreatDoor
open Go.RowKit

/-- digits in an own slice -/
theorem dsl_own {w : World} {B n : Nat} {v : Value} {l : List Nat} {N : Nat} (h : w.ownsRow B 3 1 v n (l.map natV)) (hl : ∀ x ∈ l, x < 10) (hv : In.nv 10 l = N) (hb : l = [] ∨ 10 ^ (l.length - 1) ≤ N) : DSl w v N := by
  obtain ⟨o, c, rfl, h1, h2, h3, h4⟩ := own_nats h
  unfold maxLen at h2
  have e := In.dg_is hl hv hb
  rw [e] at h4
  exact DSl.mk' (by rw [← e]; have := h.1; simpa using this) h1 (by omega) h3 h4
theorem lt_snoc10 {ds : List Nat} {x : Nat} (h : ∀ y ∈ ds, y < 10) (hx : x < 10) : ∀ y ∈ ds ++ [x], y < 10 := by
  intro y hy
  rcases List.mem_append.1 hy with h1 | h1
  · exact h y h1
  · rw [List.mem_singleton.1 h1]; exact hx
theorem natV_app (ds : List Nat) (x : Nat) : ds.map natV ++ [natV x] = (ds ++ [x]).map natV := by simp
set_option maxRecDepth 100000 in
set_option maxHeartbeats 2000000 in
theorem rplus_any (u v : Value) (a b : Nat) (w : World) (hu : DSl w u a) (hv : DSl w v b) (ha : (In.dg a).length ≤ 1000) (hb : (In.dg b).length ≤ 1000) :
    Calls Tryz.prog 80 #[u, v] w fun e w' => ∃ r, e = .returned r ∧ DSl w' r (a + b) ∧ Below w.heap.size w w' := by
  obtain ⟨o, c, rfl, a1, a2, a3, a4⟩ := hu.ex
  obtain ⟨o', c', rfl, b1, b2, b3, b4⟩ := hv.ex
  obtain ⟨M, hM⟩ : ∃ L, (In.dg a).length = L := ⟨_, rfl⟩
  obtain ⟨N, hN⟩ : ∃ L, (In.dg b).length = L := ⟨_, rfl⟩
  rw [hM] at ha a1 ⊢
  rw [hN] at hb b1 ⊢
  have HA := Lib.hid a4
  have HB := Lib.hid b4
  have HM := Lib.hid hM
  have HN := Lib.hid hN
  clear a4 b4 hM hN hu hv
  go_enter Tryz.func80, Tryz.ntmps80
  go_wp2_with fail
  go_loopw [5, 6, 7] (fun ov cv iv wr => ∃ (j cr : Nat) (ds : List Nat), iv = .int .i64 j ∧ cv = .int .i64 cr ∧ cr ≤ 1 ∧ j ≤ max M N + 1 ∧ ds.length = j ∧ (∀ y ∈ ds, y < 10) ∧ In.nv 10 ds + 10 ^ j * cr = a % 10 ^ j + b % 10 ^ j ∧ (j = max M N + 1 → cr = 0) ∧ (ds = [] ∨ 10 ^ (j - 1) ≤ a + b) ∧ wr.ownsRow w.heap.size 3 1 ov j (ds.map natV) ∧ Below w.heap.size w wr) (fun _ _ iv _ => max M N + 1 - (intOf iv).toNat)
  case atStart => exact ⟨0, 0, [], rfl, rfl, by omega, by omega, rfl, (fun y hy => by cases hy), by simp [In.nv, Nat.mod_one], fun _ => rfl, .inl rfl, World.ownsRow_nil _ _ _ _, Below.refl _ _⟩
  case round =>
    obtain ⟨j, cr, ds, rfl, rfl, hcr, hj, hdl, hdx, hsum, hend, hbig, hrow, hB⟩ := hrel
    have HK := Lib.hid (And.intro hdl (And.intro hdx (And.intro hsum (And.intro hend (And.intro hbig hB)))))
    replace HA := Lib.hid (HA.out.next hB)
    replace HB := Lib.hid (HB.out.next hB)
    have hob := Lib.hid (own_block hrow)
    have hbs := hB.size
    have HR := Lib.hid hrow
    have lx : a / 10 ^ j % 10 < 10 := Nat.mod_lt _ (by decide)
    have ly : b / 10 ^ j % 10 < 10 := Nat.mod_lt _ (by decide)
    have HD := Lib.hid (fun (n : Nat) (h : n = a / 10 ^ j % 10 + b / 10 ^ j % 10 + cr) => show In.nv 10 (ds ++ [n % 10]) + 10 ^ (j + 1) * (n / 10) = a % 10 ^ (j + 1) + b % 10 ^ (j + 1) from by
      rw [h]
      exact In.radd_next hdl hsum)
    have hxa : j < M ∧ (In.dg a)[j]? = some (a / 10 ^ j % 10) ∧ 10 ^ j ≤ a ∨ M ≤ j ∧ a / 10 ^ j % 10 = 0 := by
      rcases Nat.lt_or_ge j M with h | h
      · exact .inl ⟨h, In.dg_at (by rw [HM.out]; exact h), In.dg_big (by rw [HM.out]; exact h)⟩
      · exact .inr ⟨h, In.dg_out (by rw [HM.out]; exact h)⟩
    have hxb : j < N ∧ (In.dg b)[j]? = some (b / 10 ^ j % 10) ∧ 10 ^ j ≤ b ∨ N ≤ j ∧ b / 10 ^ j % 10 = 0 := by
      rcases Nat.lt_or_ge j N with h | h
      · exact .inl ⟨h, In.dg_at (by rw [HN.out]; exact h), In.dg_big (by rw [HN.out]; exact h)⟩
      · exact .inr ⟨h, In.dg_out (by rw [HN.out]; exact h)⟩
    have HCB := Lib.hid (fun (h : 0 < cr) => In.radd_big hsum h)
    generalize a / 10 ^ j % 10 = x at *
    generalize b / 10 ^ j % 10 = y at *
    have hdone : (M ≤ j ∧ N ≤ j ∧ cr = 0) ∨ ¬ (M ≤ j ∧ N ≤ j ∧ cr = 0) := Classical.em _
    rcases hdone with ⟨e1, e2, rfl⟩ | hgo
    · have HF := Lib.hid (show DSl wr _ (a + b) from dsl_own hrow hdx (In.radd_end (by rw [HM.out]; exact e1) (by rw [HN.out]; exact e2) hsum) (by rw [hdl]; exact hbig))
      have HBB := Lib.hid hB
      obtain ⟨o2, c2, rfl, _⟩ := own_nats hrow
      have d1 : decide ((j : Int) < M) = false := by rw [decide_eq_false_iff_not]; omega
      have d2 : decide ((j : Int) < N) = false := by rw [decide_eq_false_iff_not]; omega
      clear hrow hdl hdx hsum hend hbig hB HK HR HD HCB hxa hxb hob
      go_wp2_with fail
      go_ret
      exact ⟨_, rfl, HF.out, HBB.out⟩
    · have HBIG := Lib.hid (show 10 ^ j ≤ a + b from by
        rcases hxa with ⟨_, _, h⟩ | ⟨h, _⟩
        · omega
        · rcases hxb with ⟨_, _, h2⟩ | ⟨h2, _⟩
          · omega
          · exact HCB.out (by omega))
      have HJ := Lib.hid (show j < max M N + 1 from by
        rcases Nat.lt_or_ge j (max M N + 1) with h | h
        · exact h
        · exfalso
          have := hend (by omega)
          omega)
      have hj1 : j ≤ 1001 := by omega
      clear hdl hdx hsum hend hbig hB HCB hrow
      rcases hxa with ⟨h1, hx, _⟩ | ⟨h1, rfl⟩
      · rcases HA.out with h | ⟨p, off, rfl, hp, hcell⟩
        · rw [h] at hx; simp at hx
        have c1 := hcell j x hx
        clear hx hcell
        have d1 : decide ((j : Int) < M) = true := by rw [decide_eq_true_eq]; omega
        rcases hxb with ⟨h2, hy, _⟩ | ⟨h2, rfl⟩
        · rcases HB.out with h | ⟨p', off', rfl, hp', hcell'⟩
          · rw [h] at hy; simp at hy
          have c2 := hcell' j y hy
          clear hy hcell'
          have d2 : decide ((j : Int) < N) = true := by rw [decide_eq_true_eq]; omega
          go_wp2_with (at_builtin; refine wpList_append_nats rfl _ _ 40 Tryz.underlying40 rfl rfl w.heap.size _ j ds rfl (HR.out.alloc _) (some ⟨wr.heap.size, 0, none⟩) 1 1 [(cr + x + y) % 10] rfl rfl (fun h => by cases h) (row_sl (Row.new _ 3 [natV ((cr + x + y) % 10)])) (by omega) (by simp; omega) ?_; intro v' w1 hown' hgrow; have K := Lib.hid (And.intro hown' hgrow); clear hown' hgrow)
          go_roundw
          case rel =>
            obtain ⟨hdl, hdx, hsum, hend, hbig, hB⟩ := HK.out
            refine ⟨j + 1, (cr + x + y) / 10, ds ++ [(cr + x + y) % 10], by go_num, by go_num, by omega, by have := HJ.out; omega, by simp [hdl], lt_snoc10 hdx (Nat.mod_lt _ (by decide)), HD.out _ (by omega), fun h => by omega, .inr HBIG.out, K.out.1, (hB.alloc hbs _).grown K.out.2 (by simp; omega) hob.out⟩
          case measure => have := HJ.out; simp [intOf]; omega
        · have d2 : decide ((j : Int) < N) = false := by rw [decide_eq_false_iff_not]; omega
          go_wp2_with (at_builtin; refine wpList_append_nats rfl _ _ 40 Tryz.underlying40 rfl rfl w.heap.size _ j ds rfl (HR.out.alloc _) (some ⟨wr.heap.size, 0, none⟩) 1 1 [(cr + x) % 10] rfl rfl (fun h => by cases h) (row_sl (Row.new _ 3 [natV ((cr + x) % 10)])) (by omega) (by simp; omega) ?_; intro v' w1 hown' hgrow; have K := Lib.hid (And.intro hown' hgrow); clear hown' hgrow)
          go_roundw
          case rel =>
            obtain ⟨hdl, hdx, hsum, hend, hbig, hB⟩ := HK.out
            refine ⟨j + 1, (cr + x) / 10, ds ++ [(cr + x) % 10], by go_num, by go_num, by omega, by have := HJ.out; omega, by simp [hdl], lt_snoc10 hdx (Nat.mod_lt _ (by decide)), HD.out _ (by omega), fun h => by omega, .inr HBIG.out, K.out.1, (hB.alloc hbs _).grown K.out.2 (by simp; omega) hob.out⟩
          case measure => have := HJ.out; simp [intOf]; omega
      · have d1 : decide ((j : Int) < M) = false := by rw [decide_eq_false_iff_not]; omega
        rcases hxb with ⟨h2, hy, _⟩ | ⟨h2, rfl⟩
        · rcases HB.out with h | ⟨p', off', rfl, hp', hcell'⟩
          · rw [h] at hy; simp at hy
          have c2 := hcell' j y hy
          clear hy hcell'
          have d2 : decide ((j : Int) < N) = true := by rw [decide_eq_true_eq]; omega
          go_wp2_with (at_builtin; refine wpList_append_nats rfl _ _ 40 Tryz.underlying40 rfl rfl w.heap.size _ j ds rfl (HR.out.alloc _) (some ⟨wr.heap.size, 0, none⟩) 1 1 [(cr + y) % 10] rfl rfl (fun h => by cases h) (row_sl (Row.new _ 3 [natV ((cr + y) % 10)])) (by omega) (by simp; omega) ?_; intro v' w1 hown' hgrow; have K := Lib.hid (And.intro hown' hgrow); clear hown' hgrow)
          go_roundw
          case rel =>
            obtain ⟨hdl, hdx, hsum, hend, hbig, hB⟩ := HK.out
            refine ⟨j + 1, (cr + y) / 10, ds ++ [(cr + y) % 10], by go_num, by go_num, by omega, by have := HJ.out; omega, by simp [hdl], lt_snoc10 hdx (Nat.mod_lt _ (by decide)), HD.out _ (by omega), fun h => by omega, .inr HBIG.out, K.out.1, (hB.alloc hbs _).grown K.out.2 (by simp; omega) hob.out⟩
          case measure => have := HJ.out; simp [intOf]; omega
        · have d2 : decide ((j : Int) < N) = false := by rw [decide_eq_false_iff_not]; omega
          have hc1 : 0 < cr := by omega
          have d3 : decide (0 < (cr : Int)) = true := by rw [decide_eq_true_eq]; omega
          go_wp2_with (at_builtin; refine wpList_append_nats rfl _ _ 40 Tryz.underlying40 rfl rfl w.heap.size _ j ds rfl (HR.out.alloc _) (some ⟨wr.heap.size, 0, none⟩) 1 1 [(cr) % 10] rfl rfl (fun h => by cases h) (row_sl (Row.new _ 3 [natV ((cr) % 10)])) (by omega) (by simp; omega) ?_; intro v' w1 hown' hgrow; have K := Lib.hid (And.intro hown' hgrow); clear hown' hgrow)
          go_roundw
          case rel =>
            obtain ⟨hdl, hdx, hsum, hend, hbig, hB⟩ := HK.out
            refine ⟨j + 1, (cr) / 10, ds ++ [(cr) % 10], by go_num, by go_num, by omega, by have := HJ.out; omega, by simp [hdl], lt_snoc10 hdx (Nat.mod_lt _ (by decide)), HD.out _ (by omega), fun h => by omega, .inr HBIG.out, K.out.1, (hB.alloc hbs _).grown K.out.2 (by simp; omega) hob.out⟩
          case measure => have := HJ.out; simp [intOf]; omega
end Go.Proofs.YtlehjmanlccncaaGreatDoor
set_option linter.unusedVariables false
set_option linter.unusedSimpArgs false
namespace Go.Proofs.YtlehjmanlccncaaGreatDoor
open Go.RowKit

theorem lsl_one (w : World) (v : Int) (E : Nat) (h : v = (E : Int)) : LSl (w.alloc (.cells #[.int .i64 v] 3)) (some ⟨w.heap.size, 0, none⟩) [E] := by
  subst h
  exact row_sl (Row.new w 3 [natV E])
set_option maxRecDepth 100000 in
set_option maxHeartbeats 2000000 in
theorem rminus_new (u v : Value) (a b : Nat) (w : World) (hu : DSl w u a) (hv : DSl w v b) (ha : (In.dg a).length ≤ 1000) (hba : b ≤ a) :
    Calls Tryz.prog 81 #[u, v] w fun e w' => ∃ r, e = .returned r ∧ DSl w' r (a - b) ∧ Below w.heap.size w w' ∧ ∀ k, r.ownBlock = some k → w.heap.size ≤ k := by
  obtain ⟨o, c, rfl, a1, a2, a3, a4⟩ := hu.ex
  obtain ⟨o', c', rfl, b1, b2, b3, b4⟩ := hv.ex
  obtain ⟨M, hM⟩ : ∃ L, (In.dg a).length = L := ⟨_, rfl⟩
  obtain ⟨N, hN⟩ : ∃ L, (In.dg b).length = L := ⟨_, rfl⟩
  rw [hM] at ha a1 ⊢
  rw [hN] at b1 ⊢
  have HA := Lib.hid a4
  have HB := Lib.hid b4
  have HM := Lib.hid hM
  have HN := Lib.hid hN
  clear a4 b4 hM hN hu hv
  go_enter Tryz.func81, Tryz.ntmps81
  go_wp2_with fail
  go_loopw [5, 6, 7] (fun ov cv iv wr => ∃ (j cr : Nat) (ds : List Nat), iv = .int .i64 j ∧ cv = .int .i64 cr ∧ cr ≤ 1 ∧ j ≤ M ∧ ds.length = j ∧ (∀ y ∈ ds, y < 10) ∧ In.nv 10 ds + b % 10 ^ j = a % 10 ^ j + 10 ^ j * cr ∧ wr.ownsRow w.heap.size 3 1 ov j (ds.map natV) ∧ Below w.heap.size w wr) (fun _ _ iv _ => M - (intOf iv).toNat)
  case atStart => exact ⟨0, 0, [], rfl, rfl, by omega, by omega, rfl, (fun y hy => by cases hy), by simp [In.nv, Nat.mod_one], World.ownsRow_nil _ _ _ _, Below.refl _ _⟩
  case round =>
    obtain ⟨j, cr, ds, rfl, rfl, hcr, hj, hdl, hdx, hsum, hrow, hB⟩ := hrel
    have HK := Lib.hid (And.intro hdl (And.intro hdx (And.intro hsum hB)))
    have hob := Lib.hid (own_block hrow)
    have hbs := hB.size
    by_cases hlt : j < M
    · replace HA := Lib.hid (HA.out.next hB)
      replace HB := Lib.hid (HB.out.next hB)
      have HR := Lib.hid hrow
      have lx : a / 10 ^ j % 10 < 10 := Nat.mod_lt _ (by decide)
      have ly : b / 10 ^ j % 10 < 10 := Nat.mod_lt _ (by decide)
      have HD := Lib.hid (fun (x c' : Nat) (h : x + b / 10 ^ j % 10 + cr = a / 10 ^ j % 10 + 10 * c') => In.rsub_next (a := a) (b := b) (c := cr) (x := x) (c' := c') hdl hsum h)
      have hx := In.dg_at (n := a) (i := j) (by rw [HM.out]; exact hlt)
      have hxb : j < N ∧ (In.dg b)[j]? = some (b / 10 ^ j % 10) ∨ N ≤ j ∧ b / 10 ^ j % 10 = 0 := by
        rcases Nat.lt_or_ge j N with h | h
        · exact .inl ⟨h, In.dg_at (by rw [HN.out]; exact h)⟩
        · exact .inr ⟨h, In.dg_out (by rw [HN.out]; exact h)⟩
      generalize a / 10 ^ j % 10 = x at *
      generalize b / 10 ^ j % 10 = y at *
      rcases HA.out with h | ⟨p, off, rfl, hp, hcell⟩
      · rw [h] at hx; simp at hx
      have c1 := hcell j x hx
      clear hx hcell hdl hdx hsum hB hrow
      rcases hxb with ⟨h2, hy⟩ | ⟨h2, rfl⟩
      · rcases HB.out with h | ⟨p', off', rfl, hp', hcell'⟩
        · rw [h] at hy; simp at hy
        have c2 := hcell' j y hy
        clear hy hcell'
        have d2 : decide ((j : Int) < N) = true := by rw [decide_eq_true_eq]; omega
        by_cases hbr : y + cr ≤ x
        · have e2 : decide ((x : Int) - cr - y < 0) = false := by rw [decide_eq_false_iff_not]; omega
          have HE := Lib.hid (HD.out (x - cr - y) 0 (by omega))
          go_wp2_with (at_builtin; refine wpList_append_nats rfl _ _ 40 Tryz.underlying40 rfl rfl w.heap.size _ j ds rfl (HR.out.alloc _) (some ⟨wr.heap.size, 0, none⟩) 1 1 [x - cr - y] rfl rfl (fun h => by cases h) (lsl_one _ _ (x - cr - y) (by omega)) (by omega) (by simp; omega) ?_; intro v' w1 hown' hgrow; have K := Lib.hid (And.intro hown' hgrow); clear hown' hgrow)
          go_roundw
          case rel =>
            obtain ⟨hdl, hdx, hsum, hB⟩ := HK.out
            refine ⟨j + 1, 0, ds ++ [x - cr - y], by go_num, rfl, by omega, by omega, by simp [hdl], lt_snoc10 hdx (by omega), HE.out, K.out.1, (hB.alloc hbs _).grown K.out.2 (by simp; omega) hob.out⟩
          case measure => simp [intOf]; omega
        · have e2 : decide ((x : Int) - cr - y < 0) = true := by rw [decide_eq_true_eq]; omega
          have HE := Lib.hid (HD.out (x + 10 - cr - y) 1 (by omega))
          go_wp2_with (at_builtin; refine wpList_append_nats rfl _ _ 40 Tryz.underlying40 rfl rfl w.heap.size _ j ds rfl (HR.out.alloc _) (some ⟨wr.heap.size, 0, none⟩) 1 1 [x + 10 - cr - y] rfl rfl (fun h => by cases h) (lsl_one _ _ (x + 10 - cr - y) (by omega)) (by omega) (by simp; omega) ?_; intro v' w1 hown' hgrow; have K := Lib.hid (And.intro hown' hgrow); clear hown' hgrow)
          go_roundw
          case rel =>
            obtain ⟨hdl, hdx, hsum, hB⟩ := HK.out
            refine ⟨j + 1, 1, ds ++ [x + 10 - cr - y], by go_num, rfl, by omega, by omega, by simp [hdl], lt_snoc10 hdx (by omega), HE.out, K.out.1, (hB.alloc hbs _).grown K.out.2 (by simp; omega) hob.out⟩
          case measure => simp [intOf]; omega
      · have d2 : decide ((j : Int) < N) = false := by rw [decide_eq_false_iff_not]; omega
        by_cases hbr : cr ≤ x
        · have e2 : decide ((x : Int) - cr < 0) = false := by rw [decide_eq_false_iff_not]; omega
          have HE := Lib.hid (HD.out (x - cr) 0 (by omega))
          go_wp2_with (at_builtin; refine wpList_append_nats rfl _ _ 40 Tryz.underlying40 rfl rfl w.heap.size _ j ds rfl (HR.out.alloc _) (some ⟨wr.heap.size, 0, none⟩) 1 1 [x - cr] rfl rfl (fun h => by cases h) (lsl_one _ _ (x - cr) (by omega)) (by omega) (by simp; omega) ?_; intro v' w1 hown' hgrow; have K := Lib.hid (And.intro hown' hgrow); clear hown' hgrow)
          go_roundw
          case rel =>
            obtain ⟨hdl, hdx, hsum, hB⟩ := HK.out
            refine ⟨j + 1, 0, ds ++ [x - cr], by go_num, rfl, by omega, by omega, by simp [hdl], lt_snoc10 hdx (by omega), HE.out, K.out.1, (hB.alloc hbs _).grown K.out.2 (by simp; omega) hob.out⟩
          case measure => simp [intOf]; omega
        · have e2 : decide ((x : Int) - cr < 0) = true := by rw [decide_eq_true_eq]; omega
          have HE := Lib.hid (HD.out (x + 10 - cr) 1 (by omega))
          go_wp2_with (at_builtin; refine wpList_append_nats rfl _ _ 40 Tryz.underlying40 rfl rfl w.heap.size _ j ds rfl (HR.out.alloc _) (some ⟨wr.heap.size, 0, none⟩) 1 1 [x + 10 - cr] rfl rfl (fun h => by cases h) (lsl_one _ _ (x + 10 - cr) (by omega)) (by omega) (by simp; omega) ?_; intro v' w1 hown' hgrow; have K := Lib.hid (And.intro hown' hgrow); clear hown' hgrow)
          go_roundw
          case rel =>
            obtain ⟨hdl, hdx, hsum, hB⟩ := HK.out
            refine ⟨j + 1, 1, ds ++ [x + 10 - cr], by go_num, rfl, by omega, by omega, by simp [hdl], lt_snoc10 hdx (by omega), HE.out, K.out.1, (hB.alloc hbs _).grown K.out.2 (by simp; omega) hob.out⟩
          case measure => simp [intOf]; omega
    · obtain rfl : j = M := by omega
      have hs := In.rsub_end (c := cr) (by rw [HM.out]; exact hdl) hdx hba (by rw [HM.out]; exact hsum)
      obtain ⟨o2, c2, rfl, k1, k2, k3, k4⟩ := own_nats hrow
      unfold maxLen at k2
      have CT := Lib.hid (rtrim_any o2 j c2 ds wr hdl hdx k1 (by omega) k3 k4)
      rw [hs] at CT
      have HBB := Lib.hid hB
      have HOB := Lib.hid (show ∀ n k, (Value.slice o2 n c2).ownBlock = some k → w.heap.size ≤ k from fun n k hk => hob.out k (by cases o2 <;> exact hk))
      clear HK hdl hdx hsum hrow hB hs hlt hj k1 k2 k3 k4 hob
      go_wp2_with fail
      with_reducible refine Calls.mono CT.out ?_
      rintro e w3 ⟨k, rfl, hn, hb⟩
      have HF := Lib.hid (And.intro hn (Below.andThen HBB.out hb))
      clear hn hb
      go_wp2_with fail
      go_ret
      exact ⟨_, rfl, HF.out.1, HF.out.2, HOB.out _⟩
theorem rminus_any (u v : Value) (a b : Nat) (w : World) (hu : DSl w u a) (hv : DSl w v b) (ha : (In.dg a).length ≤ 1000) (hba : b ≤ a) :
    Calls Tryz.prog 81 #[u, v] w fun e w' => ∃ r, e = .returned r ∧ DSl w' r (a - b) ∧ Below w.heap.size w w' :=
  (rminus_new u v a b w hu hv ha hba).mono fun _ _ ⟨r, h1, h2, h3, _⟩ => ⟨r, h1, h2, h3⟩
end Go.Proofs.YtlehjmanlccncaaGreatDoor
set_option linter.unusedVariables false
set_option linter.unusedSimpArgs false
namespace Go.Proofs.YtlehjmanlccncaaGreatDoor
open Go.RowKit

theorem row_set_nat {w : World} {b : Nat} {t : TypeId} {l : List Nat} (h : Row w b t (l.map natV)) (q x : Nat) : Row (w.setCell ⟨b, q, none⟩ (natV x)) b t ((l.set q x).map natV) := by
  rw [List.map_set]
  exact h.set q (natV x)
set_option maxRecDepth 100000 in
set_option maxHeartbeats 4000000 in
theorem rtimes_any (u v : Value) (a b : Nat) (w : World) (hu : DSl w u a) (hv : DSl w v b) (ha : (In.dg a).length ≤ 400) (hb : (In.dg b).length ≤ 400) :
    Calls Tryz.prog 73 #[u, v] w fun e w' => ∃ r, e = .returned r ∧ DSl w' r (a * b) ∧ Below w.heap.size w w' := by
  obtain ⟨o, c, rfl, a1, a2, a3, a4⟩ := hu.ex
  obtain ⟨o', c', rfl, b1, b2, b3, b4⟩ := hv.ex
  obtain ⟨i0, hi, hz0, hz1, hz2⟩ := info_parts infoInt
  obtain ⟨M, hM⟩ : ∃ L, (In.dg a).length = L := ⟨_, rfl⟩
  obtain ⟨N, hN⟩ : ∃ L, (In.dg b).length = L := ⟨_, rfl⟩
  rw [hM] at ha a1 ⊢
  rw [hN] at hb b1 ⊢
  have hmk : (Instr.makeSlice 40 (.int .i64 ((M : Int) + N)) (.int .i64 ((M : Int) + N))).run Tryz.prog w = .ok (.slice (some ⟨w.heap.size, 0, none⟩) (M + N) (M + N)) (w.alloc (.cells (List.replicate (M + N) (.int .i64 0)).toArray 3)) := by
    have := run_make_row (P := Tryz.prog) w 40 3 i0 _ 8 Tryz.underlying40 hi hz0 hz1 hz2 rfl (M + N) (by omega) (by omega)
    exact_mod_cast this
  have HA := Lib.hid a4
  have HB := Lib.hid b4
  have HM := Lib.hid hM
  have HN := Lib.hid hN
  clear a4 b4 hM hN hu hv
  go_enter Tryz.func73, Tryz.ntmps73
  go_wp2_with fail
  have HR0 := Lib.hid (And.intro (row_zeros w (M + N) 3) (show Below w.heap.size w (w.alloc (.cells (Array.replicate (M + N) (.int .i64 0)) 3)) from (Below.refl _ _).alloc (Nat.le_refl _) _))
  clear hmk
  go_loopw [6] (fun iv wr => ∃ (i : Nat) (l : List Nat), iv = .int .i64 i ∧ i ≤ M ∧ l.length = M + N ∧ (∀ y ∈ l, y < 10) ∧ In.nv 10 l = a % 10 ^ i * b ∧ Row wr w.heap.size 3 (l.map natV) ∧ Below w.heap.size w wr) (fun iv _ => M - (intOf iv).toNat)
  case atStart => exact ⟨0, List.replicate (M + N) 0, rfl, Nat.zero_le _, by simp, (fun y hy => by have := (List.mem_replicate.1 hy).2; omega), by rw [In.nv_zeros, Nat.pow_zero, Nat.mod_one, Nat.zero_mul], by simpa [padL] using HR0.out.1, HR0.out.2⟩
  case round =>
    clear HR0
    obtain ⟨i, l, rfl, him, hll, hlx, hval, hR, hB⟩ := hrel
    by_cases hlt : i < M
    · have hx := In.dg_at (n := a) (i := i) (by rw [HM.out]; exact hlt)
      have lx : a / 10 ^ i % 10 < 10 := Nat.mod_lt _ (by decide)
      have HX := Lib.hid (show a / 10 ^ i % 10 = a / 10 ^ i % 10 from rfl)
      generalize hxd : a / 10 ^ i % 10 = x at hx lx HX
      have HXD := Lib.hid hxd
      have h0 : In.nv 10 l + 10 ^ (i + 0) * 0 = In.mulT a b i 0 := by rw [In.mulT_zero, Nat.mul_zero, Nat.add_zero]; exact hval
      have HS := Lib.hid (And.intro hll (And.intro hlx (And.intro h0 (And.intro hR hB))))
      clear hll hlx h0 hval hR hxd HX
      go_wp2_with fail
      go_loopw [7, 8] (fun cv kv wx => ∃ (k cr : Nat) (l : List Nat), kv = .int .i64 k ∧ cv = .int .i64 cr ∧ cr ≤ 9 ∧ k ≤ N + 1 ∧ (k = N + 1 → cr = 0) ∧ l.length = M + N ∧ (∀ y ∈ l, y < 10) ∧ In.nv 10 l + 10 ^ (i + k) * cr = In.mulT a b i k ∧ Row wx w.heap.size 3 (l.map natV) ∧ Below w.heap.size w wx) (fun _ kv _ => N + 1 - (intOf kv).toNat)
      case atStart => exact ⟨0, 0, l, rfl, rfl, by omega, by omega, fun _ => rfl, HS.out.1, HS.out.2.1, HS.out.2.2.1, HS.out.2.2.2.1, HS.out.2.2.2.2⟩
      case round =>
        clear HS hB
        obtain ⟨k, cr, l, rfl, rfl, hcr, hkN, hend, hll, hlx, hval, hR, hB⟩ := hrel
        rename World => wx
        have hdone : (N ≤ k ∧ cr = 0) ∨ ¬ (N ≤ k ∧ cr = 0) := Classical.em _
        rcases hdone with ⟨e1, rfl⟩ | hgo
        · have hv2 : In.nv 10 l = a % 10 ^ (i + 1) * b := by
            rw [Nat.mul_zero, Nat.add_zero] at hval
            rw [hval, In.mulT_end a i (by rw [HN.out]; exact e1)]
          have HF := Lib.hid (And.intro hll (And.intro hlx (And.intro hv2 (And.intro hR hB))))
          have d1 : decide ((k : Int) < N) = false := by rw [decide_eq_false_iff_not]; omega
          clear hll hlx hval hR hB hend hv2
          go_wp2_with fail
          go_roundw
          case rel => exact ⟨i + 1, l, by go_num, by omega, HF.out⟩
          case measure => simp [intOf]; omega
        · have hk2 : k ≤ N := by
            rcases Nat.lt_or_ge k (N + 1) with h | h
            · omega
            · have := hend (by omega); omega
          obtain ⟨q, hq⟩ : ∃ q, i + k = q := ⟨_, rfl⟩
          have hqlt : q < M + N := by omega
          rw [hq] at hval
          obtain ⟨old, ho⟩ : ∃ old, l[q]? = some old := ⟨_, List.getElem?_eq_getElem (by rw [hll]; exact hqlt)⟩
          have lo : old < 10 := hlx _ (List.mem_of_getElem? ho)
          have HD := Lib.hid (fun (n t : Nat) (hn : n = old + cr + t) (ht : t = x * (b / 10 ^ k % 10)) => show In.nv 10 (l.set q (n % 10)) + 10 ^ (i + (k + 1)) * (n / 10) = In.mulT a b i (k + 1) from by
            have h1 := In.rmul_step (t := t) ho hval
            rw [← hn] at h1
            rw [show i + (k + 1) = q + 1 by omega, h1, ← In.mulT_next, hq, HXD.out, ht])
          have HE := Lib.hid (fun (n : Nat) (h : In.nv 10 (l.set q (n % 10)) + 10 ^ (i + (k + 1)) * (n / 10) = In.mulT a b i (k + 1)) (hk : k + 1 = N + 1) => show n / 10 = 0 from by
            rcases Nat.eq_zero_or_pos (n / 10) with h0 | h0
            · exact h0
            · have := In.mulT_in h (by rw [HN.out]; omega) h0
              rw [HN.out] at this
              omega)
          have e1 : (i : Int) + k = (q : Int) := by omega
          have hc := (hR.cell q).trans (show (l.map natV)[q]? = some (natV old) from by rw [List.getElem?_map, ho]; rfl)
          have hf := hR.frozen q
          have HR := Lib.hid (And.intro hll (And.intro hlx (And.intro hR hB)))
          by_cases hkl : k < N
          · have hy := In.dg_at (n := b) (i := k) (by rw [HN.out]; exact hkl)
            have ly : b / 10 ^ k % 10 < 10 := Nat.mod_lt _ (by decide)
            generalize b / 10 ^ k % 10 = y at *
            have hp : x * y ≤ 81 := Nat.mul_le_mul (show x ≤ 9 by omega) (show y ≤ 9 by omega)
            have HXY := Lib.hid (show (((x * y : Nat)) : Int) = (x : Int) * y from by push_cast; rfl)
            have w2 : Value.int .i64 (wrap64 ((x : Int) * y)) = Value.int .i64 ((x * y : Nat) : Int) := by
              refine congrArg (Value.int .i64) ?_
              rw [← HXY.out]
              unfold wrap64
              omega
            generalize hpp : x * y = p at *
            have HPP := Lib.hid hpp
            rcases HA.out.next hB with h | ⟨p1, off, rfl, hp1, hcell⟩
            · rw [h] at hx; simp at hx
            rcases HB.out.next hB with h | ⟨p2, off', rfl, hp2, hcell'⟩
            · rw [h] at hy; simp at hy
            have c1 := hcell i x hx
            have c2 := hcell' k y hy
            have d1 : decide ((k : Int) < N) = true := by rw [decide_eq_true_eq]; omega
            clear hcell hcell' hy hpp hll hlx hval hR hB hend ho hq
            go_upto_region 11 with (fail)
            refine wp_region_kin (by kernel_rfl) (by kernel_rfl) wx.heap.size 0 (by simp) (fun hk => ?_)
            repeat (go_big_quiet_step (fail))
            refine wpQuiet_nil ?_
            clear hk
            intro W2 hb
            have hR2 := HR.out.2.2.1.next hb
            have HB3 := Lib.hid (Below.andThen HR.out.2.2.2 hb)
            have hc2 := (hb.cell (p := ⟨w.heap.size, q, none⟩) HR.out.2.2.1.lt).trans hc
            have hf2 := hR2.frozen q
            have HR2 := Lib.hid hR2
            clear hb hR2 hc hf c1 c2 hp1 hp2 w2
            go_wp2_with fail
            go_roundw
            case rel =>
              have h3 := HD.out (old + cr + p) p rfl rfl
              refine ⟨k + 1, (old + cr + p) / 10, l.set q ((old + cr + p) % 10), by go_num, by go_num, by omega, by omega, HE.out _ h3, by rw [List.length_set]; exact HR.out.1, In.set_lt HR.out.2.1 (Nat.mod_lt _ (by decide)), h3, ?_, HB3.out.setCell (by simp) _⟩
              exact_mod_cast row_set_nat HR2.out q ((old + cr + p) % 10)
            case measure => simp [intOf]; omega
          · obtain rfl : k = N := by omega
            have hy := In.dg_out (n := b) (i := k) (Nat.le_of_eq HN.out)
            rw [hy] at HD
            have d1 : decide ((k : Int) < k) = false := by simp
            have d3 : decide (0 < (cr : Int)) = true := by rw [decide_eq_true_eq]; omega
            clear hy hll hlx hval hR hB hend ho hq
            go_wp2_with fail
            go_roundw
            case rel =>
              have h3 := HD.out (old + cr) 0 (by omega) (by rw [Nat.mul_zero])
              refine ⟨k + 1, (old + cr) / 10, l.set q ((old + cr) % 10), by go_num, by go_num, by omega, by omega, HE.out _ h3, by rw [List.length_set]; exact HR.out.1, In.set_lt HR.out.2.1 (Nat.mod_lt _ (by decide)), h3, ?_, HR.out.2.2.2.setCell (by simp) _⟩
              exact_mod_cast row_set_nat HR.out.2.2.1 q ((old + cr) % 10)
            case measure => first | (simp [intOf]; done) | (simp [intOf]; omega)
    · obtain rfl : i = M := by omega
      have hs : In.nv 10 l = a * b := by rw [hval, In.dg_mod (by rw [HM.out]; exact Nat.le_refl _)]
      have CT := Lib.hid (rtrim_any (some ⟨w.heap.size, 0, none⟩) (i + N) (i + N) l wr hll hlx (Nat.le_refl _) (by omega) (fun h => by cases h) (row_sl hR))
      rw [hs] at CT
      have HBB := Lib.hid hB
      clear hll hlx hval hR hB hs hlt him
      go_wp2_with fail
      with_reducible refine Calls.mono CT.out ?_
      rintro e w3 ⟨k, rfl, hn, hb⟩
      have HF := Lib.hid (And.intro hn (Below.andThen HBB.out hb))
      clear hn hb
      go_wp2_with fail
      go_ret
      exact ⟨_, rfl, HF.out⟩
end Go.Proofs.YtlehjmanlccncaaGreatDoor
