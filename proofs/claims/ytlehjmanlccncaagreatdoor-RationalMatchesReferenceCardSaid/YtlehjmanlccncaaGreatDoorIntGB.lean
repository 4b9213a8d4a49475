/- Natural numbers in groups: what slices hold; trim, group, sign. -/
/- Natural numbers in groups: sums, differences, multiples. -/
/- Natural numbers in groups: multiples by a group, differences. -/
/- Natural numbers in groups: a group in front, comparison. -/
/- Natural numbers in groups: a copy turned around; products. -/
/- Natural numbers in groups: products. -/
/- The greatest group for which a closure is true: sort.Search and greatest. -/
/- greatest, over the closures of over and of root. -/
/- Between which groups the next group of a quotient is. -/
/- The closure of the quotient: whether a multiple is at most the rest. -/
import Derived.Test.YtlehjmanlccncaaGreatDoorIntGA
import Derived.Test.YtlehjmanlccncaaGreatDoorBytes
import Derived.Test.YtlehjmanlccncaaGreatDoorRegion
import Derived.LoopTactic
import Derived.OwnWalk
import Derived.Laws.AppendOwn
import Derived.Lib.MinMax
import Derived.Deep.DeepCutAuto
import Derived.BigRegion
import Derived.Lib.SliceRun
import Derived.StillTail
import Derived.Deep.RegionHeld3
set_option linter.unusedVariables false
set_option linter.unusedSimpArgs false
namespace Go.Proofs.YtlehjmanlccncaaGreatDoor
open Go.RowKit

theorem retv {v v' : Value} (h : v = v') : Ending.returned v = .returned v' := by rw [h]
theorem vint {k : IntKind} {a b : Int} (h : a = b) : Value.int k a = .int k b := by rw [h]
theorem vbool {a b : Bool} (h : a = b) : Value.bool a = .bool b := by rw [h]
abbrev natV (x : Nat) : Value := .int .i64 x
/-- a slice of numbers -/
def LSl (w : World) (o : Option Addr) (l : List Nat) : Prop := l = [] ∨ ∃ b off, o = some ⟨b, off, none⟩ ∧ b < w.heap.size ∧ ∀ (j : Nat) x, l[j]? = some x → w.cell? ⟨b, off + j, none⟩ = some (natV x)
theorem LSl.next {w w' : World} {o : Option Addr} {l : List Nat} (h : LSl w o l) (hb : Below w.heap.size w w') : LSl w' o l := by
  rcases h with h | ⟨b, off, rfl, hl, hc⟩
  · exact .inl h
  · exact .inr ⟨b, off, rfl, Nat.lt_of_lt_of_le hl hb.size, fun j x hx => (hb.cell (p := ⟨b, off + j, none⟩) hl).trans (hc j x hx)⟩
theorem LSl.take {w : World} {o : Option Addr} {l : List Nat} (k : Nat) (h : LSl w o l) : LSl w o (l.take k) := by
  rcases h with rfl | ⟨b, off, rfl, hl, hc⟩
  · exact .inl (by simp)
  · exact .inr ⟨b, off, rfl, hl, fun j x hx => hc j x (by rw [List.getElem?_take] at hx; split at hx <;> simp_all)⟩
/-- a slice holds the groups of a natural number -/
structure NSl (w : World) (v : Value) (n : Nat) : Prop where
  ex : ∃ o c, v = .slice o (In.gs n).length c ∧ (In.gs n).length ≤ c ∧ c ≤ 9223372036854775807 ∧ (o = none → c = 0) ∧ LSl w o (In.gs n)
theorem NSl.next {w w' : World} {v : Value} {n : Nat} (h : NSl w v n) (hb : Below w.heap.size w w') : NSl w' v n := by
  obtain ⟨o, c, rfl, h1, h2, h3, h4⟩ := h.ex
  exact ⟨o, c, rfl, h1, h2, h3, h4.next hb⟩
theorem NSl.mk' {w : World} {o : Option Addr} {c n L : Nat} (hL : (In.gs n).length = L) (h1 : L ≤ c) (h2 : c ≤ 9223372036854775807) (h3 : o = none → c = 0) (h4 : LSl w o (In.gs n)) : NSl w (.slice o L c) n := by
  subst hL
  exact ⟨o, c, rfl, h1, h2, h3, h4⟩
theorem nsl_zero (w : World) : NSl w (.slice none 0 0) 0 := ⟨none, 0, rfl, Nat.le_refl _, by decide, fun _ => rfl, .inl rfl⟩

set_option maxRecDepth 100000 in
set_option maxHeartbeats 1000000 in
theorem trim_any (o : Option Addr) (L c : Nat) (l : List Nat) (w : World) (hL : l.length = L) (hl : ∀ x ∈ l, x < 10000) (hc : L ≤ c) (hc2 : c ≤ 9223372036854775807) (ho : o = none → c = 0) (hS : LSl w o l) :
    Calls Tryz.prog 119 #[.slice o L c] w fun e w' => ∃ k, e = .returned (.slice o k c) ∧ NSl w' (.slice o k c) (In.nv 10000 l) ∧ Below w.heap.size w w' := by
  have HS := Lib.hid hS
  have HL := Lib.hid hL
  have HX := Lib.hid hl
  clear hS hL hl
  go_enter Tryz.func119, Tryz.ntmps119
  go_wp2
  go_loopw [0] (fun v wr => ∃ k, v = .slice o k c ∧ k ≤ L ∧ (∀ j x, k ≤ j → l[j]? = some x → x = 0) ∧ Below w.heap.size w wr) (fun v _ => match v with | .slice _ n _ => n | _ => 0)
  case atStart => exact ⟨L, rfl, Nat.le_refl _, fun j x hj hx => by
    have := (List.getElem?_eq_some_iff.1 hx).1
    rw [HL.out] at this
    omega, Below.refl _ _⟩
  case round =>
    obtain ⟨k, rfl, hk, hz, hB⟩ := hrel
    have HZ := Lib.hid hz
    have HB := Lib.hid hB
    clear hz hB
    by_cases h0 : k = 0
    · subst h0
      have HN := Lib.hid (show NSl wr (.slice o 0 c) (In.nv 10000 l) from by
        have e := In.trim_is HX.out (by omega) HZ.out (.inl rfl)
        rw [List.take_zero] at e
        exact NSl.mk' (by rw [e]; rfl) (by omega) hc2 ho (by rw [e]; exact .inl rfl))
      go_wp2
      go_ret
      exact ⟨_, rfl, HN.out, HB.out⟩
    · obtain ⟨m, rfl⟩ : ∃ m, k = m + 1 := ⟨k - 1, by omega⟩
      obtain ⟨x, hx⟩ : ∃ x, l[m]? = some x := ⟨_, List.getElem?_eq_getElem (by rw [HL.out]; omega)⟩
      have HXX := Lib.hid hx
      rcases (HS.out.next HB.out) with h | ⟨b, off, rfl, hb, hcell⟩
      · rw [h] at hx; simp at hx
      have c1 := hcell m x hx
      clear hx hcell
      by_cases hx0 : x = 0
      · have HZ2 := Lib.hid (show ∀ j y, m ≤ j → l[j]? = some y → y = 0 from fun j y hj hy => by
          rcases Nat.lt_or_ge m j with h | h
          · exact HZ.out j y h hy
          · obtain rfl : j = m := by omega
            rw [HXX.out] at hy
            rw [← Option.some.inj hy, hx0])
        subst hx0
        go_wp2_with fail
        refine ⟨⟨m, rfl, by omega, HZ2.out, HB.out⟩, by simp⟩
      · have HN := Lib.hid (show NSl wr (.slice (some ⟨b, off, none⟩) (m + 1) c) (In.nv 10000 l) from by
          have e := In.trim_is (k := m + 1) HX.out (by rw [HL.out]; exact hk) HZ.out (.inr ⟨x, HXX.out, hx0⟩)
          exact NSl.mk' (by rw [e, List.length_take, HL.out]; omega) (by omega) hc2 (fun h => by cases h) (by rw [e]; exact (HS.out.next HB.out).take _))
        have d1 : decide ((x : Int) = 0) = false := by simp; omega
        have d2 : ((x : Int) == 0) = false := by simp; omega
        go_wp2_with fail
        go_ret
        exact ⟨_, rfl, HN.out, HB.out⟩

/-- the group at an index -/
def dig (n : Nat) (i : Int) : Nat := if 0 ≤ i then n / 10000 ^ i.toNat % 10000 else 0
theorem dig_nat (n i : Nat) : dig n (i : Int) = n / 10000 ^ i % 10000 := by unfold dig; rw [if_pos (by omega), Int.toNat_natCast]
theorem dig_lt (n : Nat) (i : Int) : dig n i < 10000 := by unfold dig; split; exact Nat.mod_lt _ (by decide); decide
set_option maxHeartbeats 1000000 in
theorem group_any (o : Option Addr) (L c n : Nat) (i : Int) (w : World) (hL : (In.gs n).length = L) (hS : LSl w o (In.gs n)) :
    Calls Tryz.prog 124 #[.slice o L c, .int .i64 i] w fun e w' => e = .returned (.int .i64 (dig n i : Nat)) ∧ w = w' := by
  by_cases h0 : 0 ≤ i
  · obtain ⟨k, rfl⟩ := Int.eq_ofNat_of_zero_le h0
    rw [dig_nat]
    by_cases hk : k < L
    · have hx := In.gs_at (n := n) (i := k) (by rw [hL]; exact hk)
      generalize n / 10000 ^ k % 10000 = x at *
      rcases hS with h | ⟨b, off, rfl, hb, hcell⟩
      · rw [h] at hx; simp at hx
      have c1 := hcell k x hx
      clear hx hcell hL
      go_enter Tryz.func124, Tryz.ntmps124
      go_wp2_with fail
      go_ret
      exact ⟨rfl, rfl⟩
    · have hz := In.gs_out (n := n) (i := k) (by rw [hL]; omega)
      rw [hz]
      have d1 : decide ((k : Int) < (L : Int)) = false := by simp; omega
      clear hS hL hz
      go_enter Tryz.func124, Tryz.ntmps124
      go_wp2_with fail
      go_ret
      exact ⟨rfl, rfl⟩
  · have e : dig n i = 0 := by unfold dig; rw [if_neg h0]
    rw [e]
    have d1 : decide (0 ≤ i) = false := by simpa using h0
    clear hS hL
    go_enter Tryz.func124, Tryz.ntmps124
    go_wp2_with fail
    go_ret
    exact ⟨rfl, rfl⟩
def sgnI (d : Int) : Int := if d < 0 then -1 else if 0 < d then 1 else 0
set_option maxHeartbeats 400000 in
theorem sign_any (d : Int) (w : World) : Calls Tryz.prog 125 #[.int .i64 d] w fun e w' => e = .returned (.int .i64 (sgnI d)) ∧ w = w' := by
  have e : sgnI d = min 1 (max (-1) d) := by unfold sgnI; split <;> (try split) <;> omega
  rw [e]
  go_enter Tryz.func125, Tryz.ntmps125
  go_wp2_with fail
  go_ret
  exact ⟨rfl, rfl⟩
end Go.Proofs.YtlehjmanlccncaaGreatDoor
set_option linter.unusedVariables false
set_option linter.unusedSimpArgs false
namespace Go.Proofs.YtlehjmanlccncaaGreatDoor
open Go.RowKit

theorem infoInt : (Tryz.prog.info? 3).map (fun i => (i.zero, i.size, i.bytes)) = some (some (.int .i64 0), 1, 8) := by kernel_rfl
theorem info_parts {P : Program} {t : TypeId} {z : Value} {s b : Nat} (h : (P.info? t).map (fun i => (i.zero, i.size, i.bytes)) = some (some z, s, b)) : ∃ i, P.info? t = some i ∧ i.zero = some z ∧ i.size = s ∧ i.bytes = b := by
  cases hq : P.info? t with
  | none => simp [hq] at h
  | some i =>
    simp [hq] at h
    exact ⟨i, rfl, h.1, h.2.1, h.2.2⟩
/-- groups, with zeros behind them -/
def padL (ds : List Nat) (N : Nat) : List Value := (ds ++ List.replicate (N - ds.length) 0).map natV
theorem padL_length {ds : List Nat} {N : Nat} (h : ds.length ≤ N) : (padL ds N).length = N := by simp [padL]; omega
theorem padL_set {ds : List Nat} {N : Nat} (h : ds.length < N) (x : Nat) : (padL ds N).set ds.length (natV x) = padL (ds ++ [x]) N := by
  unfold padL
  obtain ⟨n, hn⟩ : ∃ n, N - ds.length = n + 1 := ⟨N - ds.length - 1, by omega⟩
  have e : N - (ds ++ [x]).length = n := by simp; omega
  rw [hn, e, List.replicate_succ, ← List.map_set, List.set_append_right _ _ (Nat.le_refl _), Nat.sub_self]
  simp
theorem padL_full {ds : List Nat} {N : Nat} (h : ds.length = N) : padL ds N = ds.map natV := by simp [padL, h]
theorem zeros_padL (N : Nat) : List.replicate N (Value.int .i64 0) = padL [] N := by simp [padL]
theorem row_zeros (w : World) (N : Nat) (t : TypeId) : Row (w.alloc (.cells (Array.replicate N (.int .i64 0)) t)) w.heap.size t (padL [] N) := by
  have h := Row.new w t (List.replicate N (.int .i64 0))
  rw [zeros_padL, show (padL [] N).toArray = Array.replicate N (Value.int .i64 0) by rw [← zeros_padL]; simp] at h
  exact h
theorem row_sl {w : World} {b : Nat} {t : TypeId} {ds : List Nat} (h : Row w b t (ds.map natV)) : LSl w (some ⟨b, 0, none⟩) ds := by
  refine .inr ⟨b, 0, rfl, h.lt, fun j x hx => ?_⟩
  rw [Nat.zero_add, h.cell, List.getElem?_map, hx]
  rfl
theorem lt_snoc {ds : List Nat} {x : Nat} (h : ∀ y ∈ ds, y < 10000) (hx : x < 10000) : ∀ y ∈ ds ++ [x], y < 10000 := by
  intro y hy
  rcases List.mem_append.1 hy with h1 | h1
  · exact h y h1
  · rw [List.mem_singleton.1 h1]; exact hx

set_option maxRecDepth 100000 in
set_option maxHeartbeats 2000000 in
theorem plus_any (u v : Value) (a b : Nat) (w : World) (hu : NSl w u a) (hv : NSl w v b) (ha : (In.gs a).length ≤ 1000) (hb : (In.gs b).length ≤ 1000) :
    Calls Tryz.prog 103 #[u, v] w fun e w' => ∃ r, e = .returned r ∧ NSl w' r (a + b) ∧ Below w.heap.size w w' := by
  obtain ⟨o, c, rfl, a1, a2, a3, a4⟩ := hu.ex
  obtain ⟨o', c', rfl, b1, b2, b3, b4⟩ := hv.ex
  obtain ⟨i0, hi, hz0, hz1, hz2⟩ := info_parts infoInt
  obtain ⟨LA, hLA⟩ : ∃ L, (In.gs a).length = L := ⟨_, rfl⟩
  obtain ⟨LB, hLB⟩ : ∃ L, (In.gs b).length = L := ⟨_, rfl⟩
  obtain ⟨M, hM⟩ : ∃ M, max LA LB = M := ⟨_, rfl⟩
  rw [hLA] at ha a1 ⊢
  rw [hLB] at hb b1 ⊢
  have hMI : max (LA : Int) (LB : Int) = (M : Int) := by omega
  have mA : LA ≤ M := by omega
  have mB : LB ≤ M := by omega
  have mM : M ≤ 1000 := by omega
  have hmk : (Instr.makeSlice 89 (.int .i64 ((M : Int) + 1)) (.int .i64 ((M : Int) + 1))).run Tryz.prog w = .ok (.slice (some ⟨w.heap.size, 0, none⟩) (M + 1) (M + 1)) (w.alloc (.cells (List.replicate (M + 1) (.int .i64 0)).toArray 3)) := by
    have := run_make_row (P := Tryz.prog) w 89 3 i0 _ 8 Tryz.underlying89 hi hz0 hz1 hz2 rfl (M + 1) (by omega) (by omega)
    exact_mod_cast this
  have CA := Lib.hid (fun W (i : Int) (h : LSl W o (In.gs a)) => group_any o LA c a i W hLA h)
  have CB := Lib.hid (fun W (i : Int) (h : LSl W o' (In.gs b)) => group_any o' LB c' b i W hLB h)
  have HA := Lib.hid a4
  have HB := Lib.hid b4
  have HLA := Lib.hid hLA
  have HLB := Lib.hid hLB
  clear a4 b4 hLA hLB hu hv hM
  go_enter Tryz.func103, Tryz.ntmps103
  go_wp2_with fail
  have HR0 := Lib.hid (And.intro (row_zeros w (M + 1) 3) (show Below w.heap.size w (w.alloc (.cells (Array.replicate (M + 1) (.int .i64 0)) 3)) from (Below.refl _ _).alloc (Nat.le_refl _) _))
  clear hmk hMI
  go_loopw [6, 18] (fun cv iv wr => ∃ (j cr : Nat) (ds : List Nat), j ≤ M + 1 ∧ iv = .int .i64 j ∧ cv = .int .i64 cr ∧ cr ≤ 1 ∧ ds.length = j ∧ (∀ y ∈ ds, y < 10000) ∧ In.nv 10000 ds + 10000 ^ j * cr = a % 10000 ^ j + b % 10000 ^ j ∧ Row wr w.heap.size 3 (padL ds (M + 1)) ∧ Below w.heap.size w wr) (fun _ iv _ => M + 1 - (intOf iv).toNat)
  case atStart => exact ⟨0, 0, [], by omega, rfl, rfl, by omega, rfl, (fun y hy => by cases hy), by simp [In.nv, Nat.mod_one], HR0.out.1, HR0.out.2⟩
  case round =>
    clear HR0
    obtain ⟨j, cr, ds, hj, rfl, rfl, hcr, hdl, hdx, hsum, hR, hB⟩ := hrel
    have HK := Lib.hid (And.intro hdl (And.intro hdx (And.intro hsum (And.intro hR hB))))
    by_cases hlt : j < M + 1
    · have g1 := dig_lt a j
      have g2 := dig_lt b j
      have HD := Lib.hid (show In.nv 10000 (ds ++ [(dig a j + dig b j + cr) % 10000]) + 10000 ^ (j + 1) * ((dig a j + dig b j + cr) / 10000) = a % 10000 ^ (j + 1) + b % 10000 ^ (j + 1) from by
        rw [dig_nat, dig_nat]
        exact In.add_next hdl hsum)
      have hc := hR.cell j
      have hf := hR.frozen j
      obtain ⟨old, ho⟩ : ∃ old, (padL ds (M + 1))[j]? = some old := ⟨_, List.getElem?_eq_getElem (by rw [padL_length (by omega)]; exact hlt)⟩
      rw [ho] at hc
      replace HA := Lib.hid (HA.out.next hB)
      replace HB := Lib.hid (HB.out.next hB)
      have CAJ := Lib.hid (fun W h => CA.out W (j : Int) h)
      have CBJ := Lib.hid (fun W h => CB.out W (j : Int) h)
      clear CA CB
      generalize dig a j = x at *
      generalize dig b j = y at *
      have w1 : IntKind.i64.wrap ((x : Int) + y) = (x : Int) + y := by simp [IntKind.wrap, IntKind.bits, IntKind.signed]; omega
      clear hdl hdx hsum hR hB ho
      go_wp2_with (go_at_call 124; first | (with_reducible refine Calls.mono (CAJ.out _ HA.out) ?_; rintro e w' ⟨rfl, rfl⟩) | (with_reducible refine Calls.mono (CBJ.out _ HB.out) ?_; rintro e w' ⟨rfl, rfl⟩))
      go_roundw
      case rel =>
        obtain ⟨hdl, hdx, hsum, hR, hB⟩ := HK.out
        refine ⟨j + 1, (x + y + cr) / 10000, ds ++ [(x + y + cr) % 10000], by omega, by go_num, by go_num, by omega, by simp [hdl], lt_snoc hdx (Nat.mod_lt _ (by decide)), HD.out, ?_, hB.setCell (by simp) _⟩
        have := hR.set j (natV ((x + y + cr) % 10000))
        rw [← hdl, padL_set (by omega)] at this
        rw [← hdl]
        exact_mod_cast this
      case measure => simp [intOf]; omega
    · obtain rfl : j = M + 1 := by omega
      have hs := In.add_end hdl (by rw [HLA.out]; omega) (by rw [HLB.out]; omega) hsum
      rw [padL_full hdl] at hR
      have CT := Lib.hid (trim_any (some ⟨w.heap.size, 0, none⟩) (M + 1) (M + 1) ds wr hdl hdx (Nat.le_refl _) (by omega) (fun h => by cases h) (row_sl hR))
      rw [hs] at CT
      have HBB := Lib.hid hB
      clear HK hdl hdx hsum hR hB hs hlt hj
      go_wp2_with fail
      with_reducible refine Calls.mono CT.out ?_
      rintro e w3 ⟨r, rfl, hn, hb⟩
      have HF := Lib.hid (And.intro hn (Below.andThen HBB.out hb))
      clear hn hb
      go_wp2_with fail
      go_ret
      exact ⟨_, rfl, HF.out⟩
end Go.Proofs.YtlehjmanlccncaaGreatDoor
set_option linter.unusedVariables false
set_option linter.unusedSimpArgs false
namespace Go.Proofs.YtlehjmanlccncaaGreatDoor
open Go.RowKit

set_option maxRecDepth 100000 in
set_option maxHeartbeats 2000000 in
theorem scaled_any (u : Value) (a d : Nat) (w : World) (hu : NSl w u a) (ha : (In.gs a).length ≤ 1000) (hd : d < 10000) :
    Calls Tryz.prog 114 #[u, .int .i64 d] w fun e w' => ∃ r, e = .returned r ∧ NSl w' r (a * d) ∧ Below w.heap.size w w' := by
  obtain ⟨o, c, rfl, a1, a2, a3, a4⟩ := hu.ex
  obtain ⟨i0, hi, hz0, hz1, hz2⟩ := info_parts infoInt
  obtain ⟨M, hM⟩ : ∃ L, (In.gs a).length = L := ⟨_, rfl⟩
  rw [hM] at ha a1 ⊢
  have hmk : (Instr.makeSlice 89 (.int .i64 ((M : Int) + 1)) (.int .i64 ((M : Int) + 1))).run Tryz.prog w = .ok (.slice (some ⟨w.heap.size, 0, none⟩) (M + 1) (M + 1)) (w.alloc (.cells (List.replicate (M + 1) (.int .i64 0)).toArray 3)) := by
    have := run_make_row (P := Tryz.prog) w 89 3 i0 _ 8 Tryz.underlying89 hi hz0 hz1 hz2 rfl (M + 1) (by omega) (by omega)
    exact_mod_cast this
  have CA := Lib.hid (fun W (i : Int) (h : LSl W o (In.gs a)) => group_any o M c a i W hM h)
  have HA := Lib.hid a4
  have HM := Lib.hid hM
  clear a4 hM hu
  go_enter Tryz.func114, Tryz.ntmps114
  go_wp2_with fail
  have HR0 := Lib.hid (And.intro (row_zeros w (M + 1) 3) (show Below w.heap.size w (w.alloc (.cells (Array.replicate (M + 1) (.int .i64 0)) 3)) from (Below.refl _ _).alloc (Nat.le_refl _) _))
  clear hmk
  go_loopw [6, 15] (fun cv iv wr => ∃ (j cr : Nat) (ds : List Nat), j ≤ M + 1 ∧ iv = .int .i64 j ∧ cv = .int .i64 cr ∧ cr ≤ 9999 ∧ ds.length = j ∧ (∀ y ∈ ds, y < 10000) ∧ In.nv 10000 ds + 10000 ^ j * cr = a % 10000 ^ j * d ∧ Row wr w.heap.size 3 (padL ds (M + 1)) ∧ Below w.heap.size w wr) (fun _ iv _ => M + 1 - (intOf iv).toNat)
  case atStart => exact ⟨0, 0, [], by omega, rfl, rfl, by omega, rfl, (fun y hy => by cases hy), by simp [In.nv, Nat.mod_one], HR0.out.1, HR0.out.2⟩
  case round =>
    clear HR0
    obtain ⟨j, cr, ds, hj, rfl, rfl, hcr, hdl, hdx, hsum, hR, hB⟩ := hrel
    have HK := Lib.hid (And.intro hdl (And.intro hdx (And.intro hsum (And.intro hR hB))))
    by_cases hlt : j < M + 1
    · have g1 := dig_lt a j
      have HD := Lib.hid (show In.nv 10000 (ds ++ [(dig a j * d + cr) % 10000]) + 10000 ^ (j + 1) * ((dig a j * d + cr) / 10000) = a % 10000 ^ (j + 1) * d from by
        rw [dig_nat]
        exact In.mul_next hdl hsum)
      have hc := hR.cell j
      have hf := hR.frozen j
      obtain ⟨old, ho⟩ : ∃ old, (padL ds (M + 1))[j]? = some old := ⟨_, List.getElem?_eq_getElem (by rw [padL_length (by omega)]; exact hlt)⟩
      rw [ho] at hc
      replace HA := Lib.hid (HA.out.next hB)
      have CAJ := Lib.hid (fun W h => CA.out W (j : Int) h)
      clear CA
      clear hdl hdx hsum hR hB ho
      generalize dig a j = x at *
      have hxd : x * d ≤ 99980001 := Nat.le_trans (Nat.mul_le_mul (show x ≤ 9999 by omega) (show d ≤ 9999 by omega)) (by decide)
      have HXD := Lib.hid (show (((x * d : Nat)) : Int) = (x : Int) * d from by push_cast; rfl)
      have w2 : Value.int .i64 (wrap64 ((x : Int) * d)) = Value.int .i64 ((x * d : Nat) : Int) := by
        refine congrArg (Value.int .i64) ?_
        rw [← HXD.out]
        unfold wrap64
        omega
      generalize x * d = p at *
      go_wp2_with (go_at_call 124; with_reducible refine Calls.mono (CAJ.out _ HA.out) ?_; rintro e w' ⟨rfl, rfl⟩)
      go_roundw
      case rel =>
        clear w2
        obtain ⟨hdl, hdx, hsum, hR, hB⟩ := HK.out
        refine ⟨j + 1, (p + cr) / 10000, ds ++ [(p + cr) % 10000], by omega, by go_num, ?_, by omega, by simp [hdl], lt_snoc hdx (Nat.mod_lt _ (by decide)), HD.out, ?_, hB.setCell (by simp) _⟩
        · first | (exact vint (by omega)) | go_num
        have := hR.set j (natV ((p + cr) % 10000))
        rw [← hdl, padL_set (by omega)] at this
        rw [← hdl]
        exact_mod_cast this
      case measure => simp [intOf]; omega
    · obtain rfl : j = M + 1 := by omega
      have hs := In.mul_end (c := cr) (ds := ds) (a := a) hd (by rw [HM.out]; exact hsum)
      rw [padL_full hdl] at hR
      have CT := Lib.hid (trim_any (some ⟨w.heap.size, 0, none⟩) (M + 1) (M + 1) ds wr hdl hdx (Nat.le_refl _) (by omega) (fun h => by cases h) (row_sl hR))
      rw [hs] at CT
      have HBB := Lib.hid hB
      clear HK hdl hdx hsum hR hB hs hlt hj
      go_wp2_with fail
      with_reducible refine Calls.mono CT.out ?_
      rintro e w3 ⟨r, rfl, hn, hb⟩
      have HF := Lib.hid (And.intro hn (Below.andThen HBB.out hb))
      clear hn hb
      go_wp2_with fail
      go_ret
      exact ⟨_, rfl, HF.out⟩

set_option maxRecDepth 100000 in
set_option maxHeartbeats 2000000 in
theorem minus_new (u v : Value) (a b : Nat) (w : World) (hu : NSl w u a) (hv : NSl w v b) (ha : (In.gs a).length ≤ 1000) (hba : b ≤ a) :
    Calls Tryz.prog 104 #[u, v] w fun e w' => ∃ r, e = .returned r ∧ NSl w' r (a - b) ∧ Below w.heap.size w w' ∧ ∀ k, r.ownBlock = some k → w.heap.size ≤ k := by
  obtain ⟨o, c, rfl, a1, a2, a3, a4⟩ := hu.ex
  obtain ⟨o', c', rfl, b1, b2, b3, b4⟩ := hv.ex
  obtain ⟨i0, hi, hz0, hz1, hz2⟩ := info_parts infoInt
  obtain ⟨M, hM⟩ : ∃ L, (In.gs a).length = L := ⟨_, rfl⟩
  obtain ⟨LB, hLB⟩ : ∃ L, (In.gs b).length = L := ⟨_, rfl⟩
  rw [hM] at ha a1 ⊢
  rw [hLB] at b1 ⊢
  have hmk := run_make_row (P := Tryz.prog) w 89 3 i0 _ 8 Tryz.underlying89 hi hz0 hz1 hz2 rfl M (by omega) (by omega)
  have CB := Lib.hid (fun W (i : Int) (h : LSl W o' (In.gs b)) => group_any o' LB c' b i W hLB h)
  have HA := Lib.hid a4
  have HB := Lib.hid b4
  have HM := Lib.hid hM
  clear a4 b4 hM hLB hu hv
  go_enter Tryz.func104, Tryz.ntmps104
  go_wp2_with fail
  have HR0 := Lib.hid (And.intro (row_zeros w M 3) (show Below w.heap.size w (w.alloc (.cells (Array.replicate M (.int .i64 0)) 3)) from (Below.refl _ _).alloc (Nat.le_refl _) _))
  clear hmk
  go_loopw [6, 14] (fun cv iv wr => ∃ (j cr : Nat) (ds : List Nat), j ≤ M ∧ iv = .int .i64 j ∧ cv = .int .i64 cr ∧ cr ≤ 1 ∧ ds.length = j ∧ (∀ y ∈ ds, y < 10000) ∧ In.nv 10000 ds + b % 10000 ^ j = a % 10000 ^ j + 10000 ^ j * cr ∧ Row wr w.heap.size 3 (padL ds M) ∧ Below w.heap.size w wr) (fun _ iv _ => M - (intOf iv).toNat)
  case atStart => exact ⟨0, 0, [], by omega, rfl, rfl, by omega, rfl, (fun y hy => by cases hy), by simp [In.nv, Nat.mod_one], HR0.out.1, HR0.out.2⟩
  case round =>
    clear HR0
    obtain ⟨j, cr, ds, hj, rfl, rfl, hcr, hdl, hdx, hsum, hR, hB⟩ := hrel
    have HK := Lib.hid (And.intro hdl (And.intro hdx (And.intro hsum (And.intro hR hB))))
    by_cases hlt : j < M
    · have g2 := dig_lt b j
      have g1 := dig_lt a j
      have hx := In.gs_at (n := a) (i := j) (by rw [HM.out]; exact hlt)
      rw [← dig_nat] at hx
      have HD := Lib.hid (fun (x c' : Nat) (h : x + dig b j + cr = dig a j + 10000 * c') => In.sub_next (a := a) (b := b) (c := cr) (x := x) (c' := c') hdl hsum (by rw [← dig_nat, ← dig_nat]; exact h))
      replace HA := Lib.hid (HA.out.next hB)
      replace HB := Lib.hid (HB.out.next hB)
      have CBJ := Lib.hid (fun (k : Kin wr) => CB.out k.it (j : Int) (HB.out.next k.below))
      clear CB
      generalize dig a j = x at *
      generalize dig b j = y at *
      rcases HA.out with h | ⟨b0, off, rfl, hb0, hcell⟩
      · rw [h] at hx; simp at hx
      have c1 := hcell j x hx
      have hRl := hR.lt
      clear hx hcell hdl hdx hsum hR hB
      go_upto_region 6 with (fail)
      refine wp_region_kin (by kernel_rfl) (by kernel_rfl) wr.heap.size 0 (by simp) (fun hk => ?_)
      repeat (go_big_quiet_step (first | (go_at_call 124; with_reducible exact Calls.kin_same (CBJ.out _))))
      refine wpQuiet_nil ?_
      clear hk
      intro W2 hb
      have hR2 := HK.out.2.2.2.1.next hb
      have HB2 := Lib.hid (Below.andThen HK.out.2.2.2.2 hb)
      have hc := hR2.cell j
      have hf := hR2.frozen j
      obtain ⟨old, ho⟩ : ∃ old, (padL ds M)[j]? = some old := ⟨_, List.getElem?_eq_getElem (by rw [padL_length (by have := HK.out.1; omega)]; exact hlt)⟩
      rw [ho] at hc
      have HR2 := Lib.hid hR2
      clear hR2 hb ho c1 CBJ
      by_cases hbr : y + cr ≤ x
      · have HE := Lib.hid (HD.out (x - y - cr) 0 (by omega))
        have e1 : (x : Int) - y - cr = ((x - y - cr : Nat) : Int) := by omega
        have hz : x - y - cr < 10000 := by omega
        have e2 : decide ((x : Int) - y - cr < 0) = false := by simp; omega
        go_wp2_with fail
        go_roundw
        case rel =>
          obtain ⟨hdl, hdx, hsum, hR, hB⟩ := HK.out
          refine ⟨j + 1, 0, ds ++ [x - y - cr], by omega, by go_num, rfl, by omega, by simp [hdl], lt_snoc hdx hz, HE.out, ?_, HB2.out.setCell (by simp) _⟩
          have := HR2.out.set j (natV (x - y - cr))
          rw [← hdl, padL_set (by omega)] at this
          rw [← hdl]
          simpa [natV, e1] using this
        case measure => simp [intOf]; omega
      · have HE := Lib.hid (HD.out (x + 10000 - y - cr) 1 (by omega))
        have e1 : (x : Int) - y - cr + 10000 = ((x + 10000 - y - cr : Nat) : Int) := by omega
        have hz : x + 10000 - y - cr < 10000 := by omega
        have e2 : decide ((x : Int) - y - cr < 0) = true := by simp; omega
        go_wp2_with fail
        go_roundw
        case rel =>
          obtain ⟨hdl, hdx, hsum, hR, hB⟩ := HK.out
          refine ⟨j + 1, 1, ds ++ [x + 10000 - y - cr], by omega, by go_num, rfl, by omega, by simp [hdl], lt_snoc hdx hz, HE.out, ?_, HB2.out.setCell (by simp) _⟩
          have := HR2.out.set j (natV (x + 10000 - y - cr))
          rw [← hdl, padL_set (by omega)] at this
          rw [← hdl]
          simpa [natV, e1] using this
        case measure => simp [intOf]; omega
    · obtain rfl : j = M := by omega
      have hs := In.sub_end (c := cr) (by rw [HM.out]; exact hdl) hdx hba (by rw [HM.out]; exact hsum)
      rw [padL_full hdl] at hR
      have CT := Lib.hid (trim_any (some ⟨w.heap.size, 0, none⟩) j j ds wr hdl hdx (Nat.le_refl _) (by omega) (fun h => by cases h) (row_sl hR))
      rw [hs] at CT
      have HBB := Lib.hid hB
      clear HK hdl hdx hsum hR hB hs hlt hj
      go_wp2_with fail
      with_reducible refine Calls.mono CT.out ?_
      rintro e w3 ⟨r, rfl, hn, hb⟩
      have HF := Lib.hid (And.intro hn (Below.andThen HBB.out hb))
      clear hn hb
      go_wp2_with fail
      go_ret
      exact ⟨_, rfl, HF.out.1, HF.out.2, fun k hk => by
        have h : w.heap.size = k := by simpa [Value.ownBlock] using hk
        omega⟩
theorem minus_any (u v : Value) (a b : Nat) (w : World) (hu : NSl w u a) (hv : NSl w v b) (ha : (In.gs a).length ≤ 1000) (hba : b ≤ a) :
    Calls Tryz.prog 104 #[u, v] w fun e w' => ∃ r, e = .returned r ∧ NSl w' r (a - b) ∧ Below w.heap.size w w' :=
  (minus_new u v a b w hu hv ha hba).mono fun _ _ ⟨r, h1, h2, h3, _⟩ => ⟨r, h1, h2, h3⟩
end Go.Proofs.YtlehjmanlccncaaGreatDoor
set_option linter.unusedVariables false
set_option linter.unusedSimpArgs false
namespace Go.Proofs.YtlehjmanlccncaaGreatDoor
open Go.RowKit

theorem own_block {W : World} {b k : Nat} {e : TypeId} {size : Nat} {v : Value} {xs : List Value} (h : W.ownsRow b e size v k xs) : ∀ j, v.ownBlock = some j → b ≤ j := by
  intro j hj
  rcases h.2 with ⟨rfl, _⟩ | ⟨g, cap, cur, rfl, hgb, _⟩
  · cases hj
  · simp [Value.ownBlock] at hj
    omega
theorem own_lsl {w : World} {B : Nat} {t : TypeId} {g n c : Nat} {xs : List Nat} (h : w.ownsRow B t 1 (.slice (some ⟨g, 0, none⟩) n c) n (xs.map natV)) : LSl w (some ⟨g, 0, none⟩) xs := by
  rcases h.2 with ⟨h1, _⟩ | ⟨g', cap, cur, h1, hg, hb, _⟩
  · cases h1
  · cases h1
    refine .inr ⟨g, 0, rfl, (Array.getElem?_eq_some_iff.1 hb).1, fun j x hx => ?_⟩
    have := h.cells (g := g) rfl j (natV x) (by rw [List.getElem?_map, hx]; rfl)
    have e : Addr.add ⟨g, 0, none⟩ j = ⟨g, j, none⟩ := by unfold Addr.add; split <;> simp_all
    rw [e] at this
    rw [Nat.zero_add]
    exact this
theorem own_some {w : World} {B : Nat} {t : TypeId} {v : Value} {n : Nat} {xs : List Value} (h : w.ownsRow B t 1 v n xs) (hn : 0 < n) : ∃ g c, v = .slice (some ⟨g, 0, none⟩) n c ∧ n ≤ c ∧ c ≤ maxLen ∧ B ≤ g := by
  rcases h.2 with ⟨_, rfl⟩ | ⟨g, cap, cur, rfl, h0, _, h1, h2, _⟩
  · omega
  · exact ⟨g, cap, rfl, h1, h2, h0⟩
theorem natV_one (xs : List Nat) : ∀ u ∈ xs.map natV, u.oneCell' = true := by
  intro u hu
  obtain ⟨x, _, rfl⟩ := List.mem_map.1 hu
  rfl
/-- the numbers of a slice, which may be nil, behind an own slice -/
theorem run_append_nats (w : World) (t : TypeId) (ht : Tryz.prog.underlying t = some (.slice 3)) (B : Nat) (v : Value) (n : Nat) (xs : List Nat) (hown : w.ownsRow B 3 1 v n (xs.map natV)) (po : Option Addr) (m c : Nat) (ns : List Nat) (hm : ns.length = m) (hnil : po = none → c = 0) (hS : LSl w po ns)
    (hl : n + m ≤ 2 ^ 40) (hB : B ≤ w.heap.size) :
    ∃ v' w', (Builtin.append_ #[t, t] t #[v, .slice po m c]).run Tryz.prog w = .ok v' w' ∧ w'.ownsRow B 3 1 v' (n + m) ((xs ++ ns).map natV) ∧ w.grownBy w' v.ownBlock := by
  obtain ⟨i0, hi0, hz0, hz1, hz2⟩ := info_parts infoInt
  cases po with
  | none =>
    have hn : ns = [] := by
      rcases hS with h | ⟨b, off, h, _⟩
      · exact h
      · cases h
    subst hn
    obtain rfl : m = 0 := hm.symm
    obtain rfl := hnil rfl
    refine ⟨v, w, ?_, by simpa using hown, World.grownBy.refl _ _⟩
    rcases hown.2 with ⟨rfl, rfl⟩ | ⟨g, cap, cur, rfl, _, _, hnc, _⟩
    · simp [Builtin.append_, run_underlying ht, sizeOf, typeInfo, hi0, Builtin.lenOf, Builtin.firstCells, loadCells, loadCellsFrom]
    · simp [Builtin.append_, run_underlying ht, sizeOf, typeInfo, hi0, Builtin.lenOf, Builtin.firstCells, loadCells, loadCellsFrom, hnc, storeCells]
  | some a =>
    have hc : ∀ j u, (ns.map natV)[j]? = some u → w.cell? (a.add j) = some u := by
      intro j u hj
      rw [List.getElem?_map] at hj
      obtain ⟨x, hx, rfl⟩ := Option.map_eq_some_iff.1 hj
      rcases hS with rfl | ⟨b, off, h, hl, hc⟩
      · simp at hx
      · cases h
        have e : Addr.add ⟨b, off, none⟩ j = ⟨b, off + j, none⟩ := by unfold Addr.add; split <;> simp_all
        rw [e]
        exact hc j x hx
    obtain ⟨v', w', hr, h2, h3, _⟩ := run_append_own (P := Tryz.prog) w B t t 3 i0 (.int .i64 0) 1 8 ht hi0 hz0 hz1 hz2 rfl (by decide) v n (xs.map natV) hown a m c (ns.map natV) (by simp [hm]) hc (natV_one _) (by unfold maxLen; omega) (by omega) hB
    refine ⟨v', w', hr, ?_, h3⟩
    rw [List.map_append]
    exact h2
theorem wpList_append_nats {ops : Array Oper} {rest : List Oper} {o : Oper} {a : Act} {w : World} {Q : Exit → Act → World → Prop} (hgd : o.guard = none) (s x : Operand) (t : TypeId) (ht : Tryz.prog.underlying t = some (.slice 3))
    (ho : o.op = .call { callee := .builtin .append, args := #[s, x], argTypes := #[t, t] }) (hty : o.type = t)
    (B : Nat) (v : Value) (n : Nat) (xs : List Nat) (hs : a.eval s = v) (hown : w.ownsRow B 3 1 v n (xs.map natV)) (po : Option Addr) (m c : Nat) (ns : List Nat) (hx : a.eval x = .slice po m c) (hm : ns.length = m) (hnil : po = none → c = 0) (hS : LSl w po ns)
    (hl : n + m ≤ 2 ^ 40) (hB : B ≤ w.heap.size) (h : ∀ v' w', w'.ownsRow B 3 1 v' (n + m) ((xs ++ ns).map natV) → w.grownBy w' v.ownBlock → wpList Tryz.prog ops Q rest (a.put o.dst v') w') : wpList Tryz.prog ops Q (o :: rest) a w :=
  wpList_plain hgd fun _ hK => by
    obtain ⟨v', w', hr, h2, h3⟩ := run_append_nats w t ht B v n xs hown po m c ns hm hnil hS hl hB
    unfold Oper.wp execOp
    simp only [ho, hty, resolve, invoke, builtin, Sem.run_bind, Sem.run_pure, Result.andThen_ok, List.map_toArray, List.map_cons, List.map_nil, hs, hx, hr]
    exact hK _ _ (h v' w' h2 h3)
theorem made_one (w : World) (x : Nat) {B n : Nat} (hB : B ≤ w.heap.size) (hn : w.heap.size = n) : (w.alloc (.cells #[natV x] 3)).ownsRow B 3 1 (.slice (some ⟨n, 0, none⟩) 1 1) 1 ([x].map natV) := by
  subst hn
  exact ⟨rfl, .inr ⟨w.heap.size, 1, #[natV x], rfl, hB, Row.new w 3 [natV x], Nat.le_refl _, by decide, rfl, rfl⟩⟩

set_option maxRecDepth 100000 in
set_option maxHeartbeats 1000000 in
theorem shifted_new (u : Value) (a g : Nat) (w : World) (hu : NSl w u a) (ha : (In.gs a).length ≤ 1000) (hg : g < 10000) :
    Calls Tryz.prog 115 #[u, .int .i64 g] w fun e w' => ∃ r, e = .returned r ∧ NSl w' r (a * 10000 + g) ∧ Below w.heap.size w w' ∧ ∀ k, r.ownBlock = some k → w.heap.size ≤ k := by
  obtain ⟨o, c, rfl, a1, a2, a3, a4⟩ := hu.ex
  obtain ⟨M, hM⟩ : ∃ L, (In.gs a).length = L := ⟨_, rfl⟩
  rw [hM] at ha a1 ⊢
  have hv : In.nv 10000 ([g] ++ In.gs a) = a * 10000 + g := by
    show g + 10000 * In.nv 10000 (In.gs a) = _
    rw [In.nv_gr (by decide)]
    omega
  have HL := Lib.hid (show ∀ x ∈ [g] ++ In.gs a, x < 10000 from fun x hx => by
    rcases List.mem_append.1 hx with h | h
    · rw [List.mem_singleton.1 h]; exact hg
    · exact In.gs_lt a x h)
  have HLL := Lib.hid (show ([g] ++ In.gs a).length = 1 + M from by rw [List.length_append, hM]; rfl)
  have CT := Lib.hid (fun (W : World) (g' c' : Nat) (h1 : 1 + M ≤ c') (h2 : c' ≤ 9223372036854775807) (h : LSl W (some ⟨g', 0, none⟩) ([g] ++ In.gs a)) => trim_any (some ⟨g', 0, none⟩) (1 + M) c' ([g] ++ In.gs a) W HLL.out HL.out h1 h2 (fun h => by cases h) h)
  rw [hv] at CT
  have HA := Lib.hid a4
  have HM := Lib.hid hM
  clear a4 hM hu hv
  go_enter Tryz.func115, Tryz.ntmps115
  go_wp2_with (at_builtin; refine wpList_append_nats rfl _ _ 89 Tryz.underlying89 rfl rfl w.heap.size (.slice (some ⟨w.heap.size, 0, none⟩) 1 1) 1 [g] rfl (made_one w g (Nat.le_refl _) rfl) o M c (In.gs a) rfl HM.out a3 (HA.out.next ((Below.refl _ _).alloc (Nat.le_refl _) _)) (by omega) (by simp) ?_; intro v' w2 hown' hgrow; have K := Lib.hid (And.intro hown' (((Below.refl w.heap.size w).alloc (Nat.le_refl _) (.cells #[natV g] 3)).grown hgrow (by simp) (fun k hk => by simp [Value.ownBlock] at hk; omega))); clear hown' hgrow)
  obtain ⟨g', c', rfl, h1, h2, hg0⟩ := own_some K.out.1 (by omega)
  have CT2 := Lib.hid (CT.out w2 g' c' h1 h2 (own_lsl K.out.1))
  clear CT h1 h2
  with_reducible refine Calls.mono CT2.out ?_
  rintro e w3 ⟨r, rfl, hn, hb⟩
  have HF := Lib.hid (And.intro hn (Below.andThen K.out.2 hb))
  clear hn hb
  have HG := Lib.hid hg0
  clear hg0
  go_wp2_with fail
  go_ret
  exact ⟨_, rfl, HF.out.1, HF.out.2, fun k hk => by
    have := HG.out
    have h : g' = k := by simpa [Value.ownBlock] using hk
    omega⟩
theorem shifted_any (u : Value) (a g : Nat) (w : World) (hu : NSl w u a) (ha : (In.gs a).length ≤ 1000) (hg : g < 10000) :
    Calls Tryz.prog 115 #[u, .int .i64 g] w fun e w' => ∃ r, e = .returned r ∧ NSl w' r (a * 10000 + g) ∧ Below w.heap.size w w' :=
  (shifted_new u a g w hu ha hg).mono fun _ _ ⟨r, h1, h2, h3, _⟩ => ⟨r, h1, h2, h3⟩

set_option maxRecDepth 100000 in
set_option maxHeartbeats 1000000 in
theorem compare_any (u v : Value) (a b : Nat) (w : World) (hu : NSl w u a) (hv : NSl w v b) (ha : (In.gs a).length ≤ 1000) (hb : (In.gs b).length ≤ 1000) :
    Calls Tryz.prog 106 #[u, v] w fun e w' => e = .returned (.int .i64 (In.cmpN a b)) ∧ Below w.heap.size w w' := by
  obtain ⟨o, c, rfl, a1, a2, a3, a4⟩ := hu.ex
  obtain ⟨o', c', rfl, b1, b2, b3, b4⟩ := hv.ex
  obtain ⟨M, hM⟩ : ∃ L, (In.gs a).length = L := ⟨_, rfl⟩
  obtain ⟨N, hN⟩ : ∃ L, (In.gs b).length = L := ⟨_, rfl⟩
  rw [hM] at ha a1 ⊢
  rw [hN] at hb b1 ⊢
  have HBR := Lib.hid (Below.refl w.heap.size w)
  by_cases hMN : M = N
  · subst hMN
    have HA := Lib.hid a4
    have HB := Lib.hid b4
    have HM := Lib.hid hM
    have HN := Lib.hid hN
    clear a4 b4 hM hN hu hv
    go_enter Tryz.func106, Tryz.ntmps106
    go_wp2_with fail
    go_loopw [5] (fun iv wr => ∃ k : Nat, k ≤ M ∧ iv = .int .i64 ((k : Int) - 1) ∧ a / 10000 ^ k = b / 10000 ^ k ∧ Below w.heap.size w wr) (fun iv _ => (intOf iv + 1).toNat)
    case atStart => exact ⟨M, Nat.le_refl _, rfl, by rw [← HM.out, In.gs_top, HM.out, ← HN.out, In.gs_top], HBR.out⟩
    case round =>
      obtain ⟨k, hk, rfl, heq, hB⟩ := hrel
      replace HA := Lib.hid (HA.out.next hB)
      replace HB := Lib.hid (HB.out.next hB)
      replace HBR := Lib.hid hB
      have HE := Lib.hid heq
      clear heq hB
      cases k with
      | zero =>
        have HR := Lib.hid (show In.cmpN a b = 0 from by
          have := HE.out
          rw [Nat.pow_zero, Nat.div_one, Nat.div_one] at this
          rw [this, In.cmpN_eq])
        rw [show ((0 : Nat) : Int) - 1 = -1 from rfl]
        go_wp2_with fail
        go_ret
        exact ⟨retv (vint HR.out.symm), HBR.out⟩
      | succ k =>
        rw [show ((k + 1 : Nat) : Int) - 1 = (k : Int) by omega]
        have hx := In.gs_at (n := a) (i := k) (by rw [HM.out]; omega)
        have hy := In.gs_at (n := b) (i := k) (by rw [HN.out]; omega)
        have HX2 := Lib.hid (fun (h : a / 10000 ^ k % 10000 < b / 10000 ^ k % 10000) => In.cmpN_lt (In.cmp_group HE.out h))
        have HY2 := Lib.hid (fun (h : b / 10000 ^ k % 10000 < a / 10000 ^ k % 10000) => In.cmpN_gt (In.cmp_group HE.out.symm h))
        have HQ := Lib.hid (fun (h : a / 10000 ^ k % 10000 = b / 10000 ^ k % 10000) => In.cmp_next HE.out h)
        have lx : a / 10000 ^ k % 10000 < 10000 := Nat.mod_lt _ (by decide)
        have ly : b / 10000 ^ k % 10000 < 10000 := Nat.mod_lt _ (by decide)
        generalize a / 10000 ^ k % 10000 = x at *
        generalize b / 10000 ^ k % 10000 = y at *
        rcases HA.out with h | ⟨p, off, rfl, hp, hcell⟩
        · rw [h] at hx; simp at hx
        rcases HB.out with h | ⟨p', off', rfl, hp', hcell'⟩
        · rw [h] at hy; simp at hy
        have c1 := hcell k x hx
        have c2 := hcell' k y hy
        have c3 : wr.drew.cell? ⟨p, off + k, none⟩ = some (natV x) := c1
        have c4 : wr.drew.cell? ⟨p', off' + k, none⟩ = some (natV y) := c2
        clear hx hy hcell hcell' HE
        by_cases hxy : x = y
        · subst hxy
          have HQ2 := Lib.hid (HQ.out rfl)
          clear HX2 HY2 HQ
          go_upto_region 6 with (fail)
          refine wp_region_kin (by kernel_rfl) (by kernel_rfl) wr.heap.size 0 (by simp) (fun hk => ?_)
          repeat (go_big_quiet_step (fail))
          refine wpQuiet_nil ?_
          clear hk
          intro W2 hb
          have HB2 := Lib.hid (Below.andThen HBR.out hb)
          clear hb
          go_wp2_with fail
          refine ⟨⟨k, by omega, by first | rfl | go_num, HQ2.out, HB2.out⟩, by simp [intOf]⟩
        · have HS := Lib.hid (show sgnI ((x : Int) - y) = In.cmpN a b from by
            unfold sgnI
            rcases Nat.lt_or_ge x y with h | h
            · rw [if_pos (by omega), HX2.out h]
            · rw [if_neg (by omega), if_pos (by omega), HY2.out (by omega)])
          have CS := Lib.hid (fun (W : World) => sign_any ((x : Int) - y) W)
          rw [HS.out] at CS
          have n1 : ¬ (x : Int) = y := by omega
          have n2 : decide ((x : Int) = y) = false := by simp; omega
          have n3 : ((x : Int) != y) = true := by simp; omega
          clear HX2 HY2 HQ HS
          go_upto_region 6 with (fail)
          refine wp_region_kin (by kernel_rfl) (by kernel_rfl) wr.heap.size 0 (by simp) (fun hk => ?_)
          repeat (go_big_quiet_step (fail))
          refine wpQuiet_nil ?_
          clear hk
          intro W2 hb
          have HB2 := Lib.hid (Below.andThen HBR.out hb)
          have c5 := (hb.cell (p := ⟨p, off + k, none⟩) hp).trans c1
          have c6 := (hb.cell (p := ⟨p', off' + k, none⟩) hp').trans c2
          have hp2 := Nat.lt_of_lt_of_le hp hb.size
          have hp3 := Nat.lt_of_lt_of_le hp' hb.size
          clear hb c1 c2 c3 c4 hp hp'
          go_wp2_with fail
          refine wp_region_kin (by kernel_rfl) (by kernel_rfl) W2.heap.size 0 (by simp) (fun hk => ?_)
          repeat (go_big_quiet_step (first | (go_at_call 125; with_reducible exact Calls.kin_same (CS.out _))))
          refine wpQuiet_nil ?_
          clear hk
          intro W3 hb
          have HB3 := Lib.hid (Below.andThen HB2.out hb)
          clear hb
          go_wp2_with fail
          go_ret
          exact ⟨rfl, HB3.out⟩
  · have HS := Lib.hid (show sgnI ((M : Int) - N) = In.cmpN a b from by
      unfold sgnI
      rcases Nat.lt_or_ge M N with h | h
      · rw [if_pos (by omega), In.cmpN_lt (In.cmp_len (by rw [hM, hN]; exact h))]
      · rw [if_neg (by omega), if_pos (by omega), In.cmpN_gt (In.cmp_len (by rw [hM, hN]; omega))])
    have CS := Lib.hid (fun (W : World) => sign_any ((M : Int) - N) W)
    rw [HS.out] at CS
    have n1 : ¬ (M : Int) = N := by omega
    have n2 : decide ((M : Int) = N) = false := by simp; omega
    have n3 : ((M : Int) != N) = true := by simp; omega
    generalize In.cmpN a b = R at *
    clear HS a4 b4 hM hN hu hv
    go_enter Tryz.func106, Tryz.ntmps106
    go_wp2_with (go_at_call 125; with_reducible refine Calls.mono (CS.out _) ?_; rintro e w' ⟨rfl, rfl⟩)
    go_ret
    exact ⟨rfl, HBR.out⟩
end Go.Proofs.YtlehjmanlccncaaGreatDoor
set_option linter.unusedVariables false
set_option linter.unusedSimpArgs false
namespace Go.Proofs.YtlehjmanlccncaaGreatDoor
open Go.RowKit

/-! ### slices.Clone -/
theorem made_none (w : World) {B n : Nat} (hB : B ≤ w.heap.size) (hn : w.heap.size = n) : (w.alloc (.cells #[] 3)).ownsRow B 3 1 (.slice (some ⟨n, 0, none⟩) 0 0) 0 (([] : List Nat).map natV) := by
  subst hn
  exact ⟨rfl, .inr ⟨w.heap.size, 0, #[], rfl, hB, Row.new w 3 [], Nat.le_refl _, by decide, rfl, rfl⟩⟩
set_option maxRecDepth 100000 in
set_option maxHeartbeats 1000000 in
theorem clone_any (o : Option Addr) (L c : Nat) (l : List Nat) (w : World) (hl : l.length = L) (hL : L ≤ 1000) (ho : o = none → c = 0) (hLc : L ≤ c) (hS : LSl w o l) :
    Calls Tryz.prog 138 #[.slice o L c] w fun e w' => ∃ v, e = .returned v ∧ w'.ownsRow w.heap.size 3 1 v L (l.map natV) ∧ Below w.heap.size w w' := by
  have HS := Lib.hid hS
  have HL := Lib.hid hl
  have q := fun (w : World) (a : Option Addr) (n c n' c' : Nat) => Lib.run_eql_slice_nil (P := Tryz.prog) w 89 3 a n c n' c' Tryz.underlying89
  cases o with
  | none =>
    have hc := ho rfl
    subst hc
    obtain rfl : L = 0 := by omega
    obtain rfl : l = [] := List.eq_nil_of_length_eq_zero hl
    have HB := Lib.hid (Below.refl w.heap.size w)
    clear hS hl ho
    go_enter Tryz.func138, Tryz.ntmps138
    go_wp2_with fail
    go_ret
    exact ⟨_, rfl, World.ownsRow_nil _ _ _ _, HB.out⟩
  | some a =>
    clear hS hl ho
    go_enter Tryz.func138, Tryz.ntmps138
    go_wp2_with (at_builtin; refine wpList_append_nats rfl _ _ 89 Tryz.underlying89 rfl rfl w.heap.size (.slice (some ⟨w.heap.size, 0, none⟩) 0 0) 0 [] rfl (made_none w (Nat.le_refl _) rfl) (some a) L c l rfl HL.out (fun h => by cases h) (HS.out.next ((Below.refl _ _).alloc (Nat.le_refl _) _)) (by omega) (by simp) ?_; intro v' w2 hown' hgrow; have K := Lib.hid (And.intro hown' (((Below.refl w.heap.size w).alloc (Nat.le_refl _) (.cells #[] 3)).grown hgrow (by simp) (fun k hk => by simp [Value.ownBlock] at hk; omega))); clear hown' hgrow)
    go_ret
    refine ⟨_, rfl, ?_, K.out.2⟩
    have := K.out.1
    rw [Nat.zero_add, List.nil_append] at this
    exact this

/-! ### slices.Reverse -/
/-- the first k and the last k are exchanged -/
def swapL (l : List Nat) (k : Nat) : List Nat := (List.range l.length).map fun i => if i < k ∨ l.length - k ≤ i then l.getD (l.length - 1 - i) 0 else l.getD i 0
theorem swapL_length (l : List Nat) (k : Nat) : (swapL l k).length = l.length := by simp [swapL]
theorem swapL_at (l : List Nat) (k i : Nat) (h : i < l.length) : (swapL l k)[i]? = some (if i < k ∨ l.length - k ≤ i then l.getD (l.length - 1 - i) 0 else l.getD i 0) := by
  rw [swapL, List.getElem?_map, List.getElem?_range h]
  rfl
theorem swapL_zero (l : List Nat) : swapL l 0 = l := by
  apply List.ext_getElem?
  intro i
  by_cases h : i < l.length
  · rw [swapL_at l 0 i h, if_neg (by omega), List.getD_eq_getElem?_getD, List.getElem?_eq_getElem h]
    rfl
  · rw [List.getElem?_eq_none (by rw [swapL_length]; omega), List.getElem?_eq_none (by omega)]
theorem swapL_end (l : List Nat) (k : Nat) (h : l.length ≤ 2 * k + 1) (hk : 2 * k ≤ l.length) : swapL l k = l.reverse := by
  apply List.ext_getElem?
  intro i
  by_cases hi : i < l.length
  · rw [swapL_at l k i hi, List.getElem?_reverse hi]
    have e : (if i < k ∨ l.length - k ≤ i then l.getD (l.length - 1 - i) 0 else l.getD i 0) = l.getD (l.length - 1 - i) 0 := by
      by_cases hc : i < k ∨ l.length - k ≤ i
      · rw [if_pos hc]
      · rw [if_neg hc, show l.length - 1 - i = i by omega]
    rw [e, List.getD_eq_getElem?_getD, List.getElem?_eq_getElem (by omega)]
    rfl
  · rw [List.getElem?_eq_none (by rw [swapL_length]; omega), List.getElem?_eq_none (by rw [List.length_reverse]; omega)]
theorem swapL_next (l : List Nat) (k x y : Nat) (h : 2 * k + 1 < l.length) (hx : l.getD k 0 = x) (hy : l.getD (l.length - 1 - k) 0 = y) : ((swapL l k).set k y).set (l.length - 1 - k) x = swapL l (k + 1) := by
  apply List.ext_getElem?
  intro i
  by_cases hi : i < l.length
  · rw [swapL_at l (k + 1) i hi, List.getElem?_set, List.getElem?_set, swapL_at l k i hi, List.length_set, swapL_length]
    by_cases h1 : l.length - 1 - k = i
    · rw [if_pos h1, if_pos (by omega), if_pos (by omega), ← h1, show l.length - 1 - (l.length - 1 - k) = k by omega, hx]
    · rw [if_neg h1]
      by_cases h2 : k = i
      · rw [if_pos h2, if_pos (by omega), if_pos (by omega), ← h2, hy]
      · rw [if_neg h2]
        by_cases h3 : i < k ∨ l.length - k ≤ i
        · rw [if_pos h3, if_pos (by omega)]
        · rw [if_neg h3, if_neg (by omega)]
  · rw [List.getElem?_eq_none (by rw [List.length_set, List.length_set, swapL_length]; omega), List.getElem?_eq_none (by rw [swapL_length]; omega)]
theorem own_row {w : World} {B b n c : Nat} {l : List Nat} (h : w.ownsRow B 3 1 (.slice (some ⟨b, 0, none⟩) n c) n (l.map natV)) : ∃ R, Row w b 3 (l.map natV ++ R) ∧ B ≤ b := by
  rcases h.2 with ⟨h1, _⟩ | ⟨g, cap, cur, h1, hg, hb, _, _, _, ht⟩
  · cases h1
  · cases h1
    refine ⟨cur.toList.drop (n * 1), ?_, hg⟩
    rw [← ht, List.take_append_drop]
    exact hb
theorem set_left {l : List Nat} {R : List Value} {i : Nat} (h : i < l.length) (x : Nat) : (l.map natV ++ R).set i (natV x) = (l.set i x).map natV ++ R := by
  rw [List.set_append_left _ _ (by simpa using h), ← List.map_set]
theorem row_left {w : World} {b : Nat} {t : TypeId} {l : List Nat} {R : List Value} (h : Row w b t (l.map natV ++ R)) {i x : Nat} (hx : l[i]? = some x) : w.cell? ⟨b, i, none⟩ = some (natV x) := by
  have hi : i < l.length := (List.getElem?_eq_some_iff.1 hx).1
  rw [h.cell, List.getElem?_append_left (by simpa using hi), List.getElem?_map, hx]
  rfl
theorem row_lsl {w : World} {b : Nat} {t : TypeId} {l : List Nat} {R : List Value} (h : Row w b t (l.map natV ++ R)) : LSl w (some ⟨b, 0, none⟩) l :=
  .inr ⟨b, 0, rfl, h.lt, fun j x hx => by rw [Nat.zero_add]; exact row_left h hx⟩
theorem getD_some {l : List Nat} {i : Nat} (h : i < l.length) : l[i]? = some (l.getD i 0) := by rw [List.getD_eq_getElem?_getD, List.getElem?_eq_getElem h]; rfl
set_option maxRecDepth 100000 in
set_option maxHeartbeats 1000000 in
theorem reverse_any (b L c : Nat) (l : List Nat) (R : List Value) (w : World) (hl : l.length = L) (hL : L ≤ 1000) (B : Nat) (hBb : B ≤ b) (hLc : L ≤ c) (hR : Row w b 3 (l.map natV ++ R)) :
    Calls Tryz.prog 139 #[.slice (some ⟨b, 0, none⟩) L c] w fun e w' => e = .returned (.tuple #[]) ∧ LSl w' (some ⟨b, 0, none⟩) l.reverse ∧ Below B w w' := by
  have HR := Lib.hid hR
  have HL := Lib.hid hl
  have HB0 := Lib.hid (Below.refl B w)
  clear hR hl
  go_enter Tryz.func139, Tryz.ntmps139
  go_wp2_with fail
  go_loopw [2, 3] (fun iv jv wr => ∃ k : Nat, 2 * k ≤ L ∧ iv = .int .i64 k ∧ jv = .int .i64 ((L : Int) - 1 - k) ∧ Row wr b 3 ((swapL l k).map natV ++ R) ∧ Below B w wr) (fun iv _ _ => L - (intOf iv).toNat)
  case atStart => exact ⟨0, by omega, rfl, by simp, by rw [swapL_zero]; exact HR.out, HB0.out⟩
  case round =>
    obtain ⟨k, hk, rfl, rfl, hR, hB⟩ := hrel
    clear HR HB0
    by_cases hlt : 2 * k + 1 < L
    · obtain ⟨m, hm⟩ : ∃ m, L - 1 - k = m := ⟨_, rfl⟩
      have hmI : (L : Int) - 1 - k = (m : Int) := by omega
      have hx := swapL_at l k k (by rw [HL.out]; omega)
      have hy := swapL_at l k m (by rw [HL.out]; omega)
      rw [HL.out, if_neg (by omega)] at hx
      rw [HL.out, if_neg (by omega)] at hy
      have HN := Lib.hid (swapL_next l k (l.getD k 0) (l.getD m 0) (by rw [HL.out]; exact hlt) rfl (by rw [HL.out, hm]))
      rw [HL.out, hm] at HN
      have c1 := row_left hR hx
      have c2 := row_left hR hy
      generalize l.getD k 0 = x at *
      generalize l.getD m 0 = y at *
      have hRl := hR.lt
      have HK := Lib.hid (And.intro hR hB)
      rw [hmI]
      have hkm : k ≠ m := by omega
      have hkL : k < L := by omega
      have hmL : m < L := by omega
      have hkmI : (k : Int) < m := by omega
      clear hx hy hR hB hmI
      go_upto_region 3 with (fail)
      have f1 := HK.out.1.frozen k
      have f2 := HK.out.1.frozen m
      have HR2 := Lib.hid HK.out.1
      go_region
      all_goals go_wp2_with fail
      all_goals go_roundw
      all_goals first
        | (case rel =>
            refine ⟨k + 1, by omega, by go_num, vint (by omega), ?_, ?_⟩
            · have h3 := (HR2.out.set k (natV y)).set m (natV x)
              rw [set_left (by rw [swapL_length, HL.out]; omega), set_left (by rw [List.length_set, swapL_length, HL.out]; omega), HN.out] at h3
              exact h3.drew
            · exact ((HK.out.2.setCell (p := ⟨b, k, none⟩) hBb _).setCell (p := ⟨b, m, none⟩) hBb _).drew)
        | (simp [intOf]; omega)
    · have hs := swapL_end l k (by rw [HL.out]; omega) (by rw [HL.out]; exact hk)
      rw [hs] at hR
      have HF := Lib.hid (And.intro (row_lsl hR) hB)
      have d0 : ¬ (k : Int) < (L : Int) - 1 - k := by omega
      have d1 : decide ((k : Int) < (L : Int) - 1 - k) = false := by simp; omega
      clear hR hB hs
      go_wp2_with fail
      go_end0
      exact ⟨rfl, HF.out⟩
end Go.Proofs.YtlehjmanlccncaaGreatDoor
set_option linter.unusedVariables false
set_option linter.unusedSimpArgs false
namespace Go.Proofs.YtlehjmanlccncaaGreatDoor
open Go.RowKit

/-- what the closure of times makes of the groups, the highest first -/
def foldB (b : Nat) (l : List Nat) : Nat := l.foldl (fun s g => s * 10000 + b * g) 0
theorem foldB_more (b : Nat) (l : List Nat) (g : Nat) : foldB b (l ++ [g]) = foldB b l * 10000 + b * g := by simp [foldB]
theorem foldB_rev (a b : Nat) : ∀ j, j ≤ (In.gs a).length → foldB b ((In.gs a).reverse.take j) = b * (a / 10000 ^ ((In.gs a).length - j)) := by
  intro j
  induction j with
  | zero => intro _; rw [List.take_zero, Nat.sub_zero, In.gs_top]; simp [foldB]
  | succ j ih =>
    intro hj
    have h1 : j < (In.gs a).reverse.length := by rw [List.length_reverse]; omega
    have h2 : (In.gs a).reverse[j]? = some (a / 10000 ^ ((In.gs a).length - (j + 1)) % 10000) := by
      rw [List.getElem?_reverse (by omega), ← In.gs_at (by omega)]
      congr 1
      omega
    rw [List.take_add_one, h2, Option.toList_some, foldB_more, ih (by omega), In.mul_horner (i := (In.gs a).length - (j + 1)), show (In.gs a).length - (j + 1) + 1 = (In.gs a).length - j by omega]
theorem foldB_all (a b : Nat) : foldB b (In.gs a).reverse = a * b := by
  have h := foldB_rev a b (In.gs a).length (Nat.le_refl _)
  rw [List.take_of_length_le (by rw [List.length_reverse]; exact Nat.le_refl _), Nat.sub_self, Nat.pow_zero, Nat.div_one] at h
  rw [h, Nat.mul_comm]
theorem gs_len_mul (a b : Nat) : (In.gs (a * b)).length ≤ (In.gs a).length + (In.gs b).length := by
  have h1 := In.gs_lt_pow a
  have h2 := In.gs_lt_pow b
  refine In.gr_len_le (by decide) _ _ ?_
  rw [Nat.pow_add]
  rcases Nat.eq_zero_or_pos b with h | h
  · subst h
    rw [Nat.mul_zero]
    exact Nat.mul_pos (Nat.pow_pos (by decide)) (Nat.pow_pos (by decide))
  · exact Nat.lt_of_lt_of_le (Nat.mul_lt_mul_of_pos_right h1 h) (Nat.mul_le_mul_left _ (Nat.le_of_lt h2))
theorem gs_len_le {a b : Nat} (h : a ≤ b) : (In.gs a).length ≤ (In.gs b).length := In.gr_len_le (by decide) _ _ (Nat.lt_of_le_of_lt h (In.gs_lt_pow b))
theorem foldB_len (a b j : Nat) : (In.gs (foldB b ((In.gs a).reverse.take j))).length ≤ (In.gs a).length + (In.gs b).length := by
  refine Nat.le_trans (gs_len_le ?_) (gs_len_mul a b)
  rcases Nat.lt_or_ge (In.gs a).length j with h | h
  · rw [List.take_of_length_le (by rw [List.length_reverse]; omega), foldB_all]
    exact Nat.le_refl _
  · rw [foldB_rev a b j h, Nat.mul_comm]
    exact Nat.mul_le_mul_right _ (Nat.div_le_self _ _)

set_option maxRecDepth 100000 in
set_option maxHeartbeats 2000000 in
theorem timesF_any (su v : Value) (s b g bx : Nat) (w : World) (hs : NSl w su s) (hv : NSl w v b) (hc : w.cell? ⟨bx, 0, none⟩ = some v) (hbx : bx < w.heap.size) (ls : (In.gs s).length ≤ 990) (lb : (In.gs b).length ≤ 990) (hg : g < 10000) :
    Calls Tryz.prog 141 #[su, .int .i64 g, .pointer (some ⟨bx, 0, none⟩)] w fun e w' => ∃ r, e = .returned r ∧ NSl w' r (s * 10000 + b * g) ∧ Below w.heap.size w w' := by
  have HS := Lib.hid hs
  have HV := Lib.hid hv
  have h00 : Below w.heap.size w w.drew := (Below.refl _ _).drew
  have C1 := Lib.hid (shifted_any su s 0 w.drew (hs.next h00) (by omega) (by decide))
  rw [Nat.add_zero] at C1
  have l1 : (In.gs (s * 10000)).length ≤ 1000 := by
    have h := gs_len_mul s 10000
    have e : (In.gs 10000).length = 2 := by decide
    omega
  have l2 : (In.gs (b * g)).length ≤ 1000 := by
    have h := gs_len_mul b g
    have e : (In.gs g).length ≤ 1 := In.gr_len_le (by decide) 1 g (by omega)
    omega
  have c1 : w.drew.cell? ⟨bx, 0, none⟩ = some v := hc
  clear hs hv
  go_enter Tryz.func141, Tryz.ntmps141
  go_upto_region 1 with (fail)
  first | (go_region_held3 (fun w' => w'.cell? ⟨bx, 0, none⟩ = some v) (first | assumption | go_keep) (first
    | (go_at_call 115; with_reducible refine Calls.mono C1.out ?_; rintro e wa ⟨r1, rfl, hn1, hb1⟩; have HA := Lib.hid (And.intro hn1 (Below.andThen h00 hb1)); have na := (HA.out.2.cell (p := ⟨bx, 0, none⟩) hbx).trans hc; clear hn1 hb1)
    | (go_at_call 114; with_reducible refine Calls.mono (scaled_any v b g _ (HV.out.next HA.out.2) (by omega) hg) ?_; rintro e wb ⟨r2, rfl, hn2, hb2⟩; have HB := Lib.hid (And.intro hn2 (And.intro (HA.out.1.next hb2) (Below.andThen HA.out.2 hb2))); have nb := (HB.out.2.2.cell (p := ⟨bx, 0, none⟩) hbx).trans hc; clear hn2 hb2)
    | (go_at_call 103; with_reducible refine Calls.mono (plus_any r1 r2 (s * 10000) (b * g) _ HB.out.2.1 HB.out.1 l1 l2) ?_; rintro e wc ⟨r3, rfl, hn3, hb3⟩; have HC := Lib.hid (And.intro hn3 (Below.andThen HB.out.2.2 hb3)); have nc := (HC.out.2.cell (p := ⟨bx, 0, none⟩) hbx).trans hc; clear hn3 hb3))) | fail
  go_wp2_with fail
  go_ret
  exact ⟨_, rfl, HC.out⟩

set_option maxRecDepth 100000 in
set_option maxHeartbeats 2000000 in
theorem fold_any (o : Option Addr) (L c : Nat) (l : List Nat) (st v : Value) (b bx : Nat) (w : World) (hl : l.length = L) (hL : L ≤ 1000) (hLc : L ≤ c) (hS : LSl w o l) (hx : ∀ x ∈ l, x < 10000) (hst : NSl w st 0) (hv : NSl w v b) (hc : w.cell? ⟨bx, 0, none⟩ = some v) (hbx : bx < w.heap.size)
    (hF : ∀ j, (In.gs (foldB b (l.take j))).length ≤ 990) (lb : (In.gs b).length ≤ 990) :
    Calls Tryz.prog 140 #[.slice o L c, st, .func (.func 141) #[] #[.pointer (some ⟨bx, 0, none⟩)]] w fun e w' => ∃ r, e = .returned r ∧ NSl w' r (foldB b l) ∧ Below w.heap.size w w' := by
  have HS := Lib.hid hS
  have HV := Lib.hid hv
  have HST := Lib.hid hst
  have HX := Lib.hid hx
  have HL := Lib.hid hl
  have HF := Lib.hid hF
  have HB0 := Lib.hid (Below.refl w.heap.size w)
  clear hS hv hst hx hl hF
  go_enter Tryz.func140, Tryz.ntmps140
  go_wp2_with fail
  go_loopw [1, 11] (fun sv iv wr => ∃ j : Nat, j ≤ L ∧ iv = .int .i64 j ∧ NSl wr sv (foldB b (l.take j)) ∧ Below w.heap.size w wr) (fun _ iv _ => L - (intOf iv).toNat)
  case atStart => exact ⟨0, Nat.zero_le _, rfl, HST.out, HB0.out⟩
  case round =>
    clear HB0 HST
    rename Value => su
    obtain ⟨j, hj, rfl, hn, hB⟩ := hrel
    by_cases hlt : j < L
    · obtain ⟨x, hxj⟩ : ∃ x, l[j]? = some x := ⟨_, List.getElem?_eq_getElem (by rw [HL.out]; exact hlt)⟩
      have HT := Lib.hid (show foldB b (l.take (j + 1)) = foldB b (l.take j) * 10000 + b * x from by rw [List.take_add_one, hxj, Option.toList_some, foldB_more])
      have hx4 := HX.out x (List.mem_of_getElem? hxj)
      rcases (HS.out.next hB) with h | ⟨p, off, rfl, hp, hcell⟩
      · rw [h] at hxj; simp at hxj
      have c1 := hcell j x hxj
      have CT := Lib.hid (timesF_any _ v _ b x bx wr hn (HV.out.next hB) ((hB.cell (p := ⟨bx, 0, none⟩) hbx).trans hc) (Nat.lt_of_lt_of_le hbx hB.size) (HF.out j) lb hx4)
      rw [← HT.out] at CT
      have HB := Lib.hid hB
      clear hn hB hxj hcell HT
      go_wp2_with fail
      with_reducible refine Calls.mono CT.out ?_
      rintro e w2 ⟨r, rfl, hn, hb⟩
      have HK := Lib.hid (And.intro hn (Below.andThen HB.out hb))
      clear hn hb
      go_wp2_with fail
      refine ⟨⟨j + 1, by omega, by go_num, HK.out⟩, by simp [intOf]; omega⟩
    · obtain rfl : j = L := by omega
      rw [List.take_of_length_le (by rw [HL.out]; exact Nat.le_refl _)] at hn
      have HK := Lib.hid (And.intro hn hB)
      clear hn hB
      go_wp2_with fail
      go_ret
      exact ⟨_, rfl, HK.out⟩
set_option maxHeartbeats 400000 in
theorem reverse_nil (w : World) : Calls Tryz.prog 139 #[.slice none 0 0] w fun e w' => e = .returned (.tuple #[]) ∧ w = w' := by
  go_enter Tryz.func139, Tryz.ntmps139
  go_wp2_with fail
  go_loopw [2, 3] (fun iv jv wr => iv = .int .i64 0 ∧ jv = .int .i64 (-1) ∧ wr = w) (fun _ _ _ => 0)
  case atStart => exact ⟨rfl, rfl, rfl⟩
  case round =>
    obtain ⟨rfl, rfl, rfl⟩ := hrel
    go_wp2_with fail
    go_end0
    exact ⟨rfl, rfl⟩
theorem reverse_own (L : Nat) (l : List Nat) (v : Value) (B : Nat) (w : World) (hl : l.length = L) (hL : L ≤ 1000) (h : w.ownsRow B 3 1 v L (l.map natV)) :
    ∃ o c, v = .slice o L c ∧ L ≤ c ∧ Calls Tryz.prog 139 #[v] w fun e w' => e = .returned (.tuple #[]) ∧ LSl w' o l.reverse ∧ Below B w w' := by
  have h0 := h
  rcases h.2 with ⟨rfl, rfl⟩ | ⟨g, cap, cur, rfl, hg, hb, hnc, _⟩
  · obtain rfl : l = [] := List.eq_nil_of_length_eq_zero hl
    refine ⟨none, 0, rfl, Nat.le_refl _, (reverse_nil w).mono ?_⟩
    rintro e w' ⟨rfl, rfl⟩
    exact ⟨rfl, .inl rfl, Below.refl _ _⟩
  · obtain ⟨R, hR, hBg⟩ := own_row h0
    exact ⟨some ⟨g, 0, none⟩, cap, rfl, hnc, reverse_any g L cap l R w hl hL B hBg hnc hR⟩
set_option maxRecDepth 100000 in
set_option maxHeartbeats 2000000 in
theorem times_any (u v : Value) (a b : Nat) (w : World) (hu : NSl w u a) (hv : NSl w v b) (hab : (In.gs a).length + (In.gs b).length ≤ 900) :
    Calls Tryz.prog 122 #[u, v] w fun e w' => ∃ r, e = .returned r ∧ NSl w' r (a * b) ∧ Below w.heap.size w w' := by
  obtain ⟨o, c, rfl, a1, a2, a3, a4⟩ := hu.ex
  have HV := Lib.hid hv
  obtain ⟨ob, cb, rfl, _⟩ := hv.ex
  generalize hLB : (In.gs b).length = LB at *
  have HLB := Lib.hid hLB
  have HA := Lib.hid a4
  obtain ⟨L, hL⟩ : ∃ L, (In.gs a).length = L := ⟨_, rfl⟩
  have HF := Lib.hid (show ∀ j, (In.gs (foldB b ((In.gs a).reverse.take j))).length ≤ 990 from fun j => Nat.le_trans (foldB_len a b j) (Nat.le_trans (by rw [hLB]; exact hab) (show 900 ≤ 990 by decide)))
  have HLT := Lib.hid (fun x (hx : x ∈ (In.gs a).reverse) => In.gs_lt a x (by simpa using hx))
  have HRL := Lib.hid (show (In.gs a).reverse.length = L from by rw [List.length_reverse]; exact hL)
  have HAB := Lib.hid (foldB_all a b)
  rw [hL] at a1 hab ⊢
  have HL := Lib.hid hL
  have hL1 : L ≤ 900 := by omega
  have lb : LB ≤ 990 := by omega
  clear hu hv a4 hL hLB
  go_enter Tryz.func122, Tryz.ntmps122
  go_upto_region 1 with (fail)
  refine wp_named fun w1 hw => ?_
  have R1 : w1.cell? ⟨w.heap.size, 0, none⟩ = some (.slice ob LB cb) ∧ Below w.heap.size w w1 ∧ w.heap.size < w1.heap.size := by
    rw [hw]
    exact ⟨(Row.new w 89 [.slice ob LB cb]).cell 0, (Below.refl _ _).alloc (Nat.le_refl _) _, by simp⟩
  obtain ⟨bx, hbx⟩ : ∃ b, b = w.heap.size := ⟨_, rfl⟩
  rw [← hbx] at R1 ⊢
  have HR := Lib.hid R1
  have HBX := Lib.hid hbx
  have CC := Lib.hid (clone_any o L c (In.gs a) w1 HL.out (by omega) a3 a1 (HA.out.next (by have := R1.2.1; rwa [hbx] at this)))
  clear hw R1 hbx
  go_wp2_with (go_at_call 138; with_reducible refine Calls.mono CC.out ?_; rintro e w2 ⟨h, rfl, hown, hb⟩; have HO := Lib.hid hown; have HB2 := Lib.hid hb; clear hown hb)
  obtain ⟨oh, ch, rfl, hch, hrev⟩ := reverse_own L (In.gs a) _ w1.heap.size w2 HL.out (by omega) HO.out
  have CR := Lib.hid hrev
  clear hrev CC
  refine Calls.mono CR.out ?_
  rintro e w3 ⟨rfl, hl3, hb3⟩
  have HK := Lib.hid (And.intro hl3 (HB2.out.trans hb3))
  clear hl3 hb3
  have hB13 := HK.out.2
  have hB03 : Below w.heap.size w w3 := by
    have h1 := HR.out.2.1
    rw [HBX.out] at h1
    exact Below.andThen h1 hB13
  have HB03 := Lib.hid hB03
  have c3 := (hB13.cell (p := ⟨bx, 0, none⟩) HR.out.2.2).trans HR.out.1
  have lb3 := Nat.lt_of_lt_of_le HR.out.2.2 hB13.size
  have HCF := Lib.hid (fun (st : Value) (W : World) (hb : Below w3.heap.size w3 W) (hst : NSl W st 0) => fold_any oh L ch (In.gs a).reverse st (.slice ob LB cb) b bx W HRL.out (by omega) hch (HK.out.1.next hb) HLT.out hst (HV.out.next (Below.andThen HB03.out hb)) ((hb.cell (p := ⟨bx, 0, none⟩) lb3).trans c3) (Nat.lt_of_lt_of_le lb3 hb.size) HF.out (by rw [HLB.out]; exact lb))
  rw [HAB.out] at HCF
  clear hB13 hB03 CR c3
  go_wp2_with fail
  have hbl : Below w3.heap.size w3 (w3.alloc (.cells #[] 3)) := (Below.refl _ _).alloc (Nat.le_refl _) _
  have CF2 := Lib.hid (HCF.out (.slice (some ⟨w3.heap.size, 0, none⟩) 0 0) _ hbl (NSl.mk' rfl (Nat.le_refl _) (by decide) (fun h => by cases h) (.inl rfl)))
  have HBL := Lib.hid (Below.andThen HB03.out hbl)
  clear hbl HCF
  refine Calls.mono CF2.out ?_
  rintro e w4 ⟨r, rfl, hn, hb⟩
  have HFIN := Lib.hid (And.intro hn (Below.andThen HBL.out hb))
  clear hn hb
  go_wp2_with fail
  go_ret
  exact ⟨_, rfl, HFIN.out⟩
end Go.Proofs.YtlehjmanlccncaaGreatDoor
set_option linter.unusedVariables false
set_option linter.unusedSimpArgs false
namespace Go.Proofs.YtlehjmanlccncaaGreatDoor
open Go.RowKit

set_option maxRecDepth 100000 in
set_option maxHeartbeats 1000000 in
/-- sort.Search over the closure of greatest; I: what the closure keeps of the world -/
theorem search_any (cb : Array Value) (n : Nat) (p : Nat → Bool) (I : World → Prop) (w : World) (hn : n ≤ 10000) (hI : I w)
    (hf : ∀ (i : Nat) (W : World), i < n → I W → Calls Tryz.prog 132 (#[.int .i64 i] ++ cb) W fun e w' => e = .returned (.bool (p i)) ∧ I w')
    (hmono : ∀ a b, a ≤ b → b < n → p a = true → p b = true) :
    Calls Tryz.prog 131 #[.int .i64 n, .func (.func 132) #[] cb] w fun e w' => ∃ k : Nat, e = .returned (.int .i64 k) ∧ k ≤ n ∧ (∀ t, t < k → p t = false) ∧ (k < n → p k = true) ∧ I w' := by
  have HI := Lib.hid hI
  have HF := Lib.hid hf
  have HM := Lib.hid hmono
  clear hI hf hmono
  go_enter Tryz.func131, Tryz.ntmps131
  go_wp2_with fail
  go_loopw [5, 6] (fun lv hv wr => ∃ lo hi : Nat, lv = .int .i64 lo ∧ hv = .int .i64 hi ∧ lo ≤ hi ∧ hi ≤ n ∧ (∀ t, t < lo → p t = false) ∧ (∀ t, hi ≤ t → t < n → p t = true) ∧ I wr) (fun lv hv _ => (intOf hv).toNat - (intOf lv).toNat)
  case atStart => exact ⟨0, n, rfl, rfl, Nat.zero_le _, Nat.le_refl _, (fun t ht => absurd ht (Nat.not_lt_zero _)), (fun t h1 h2 => absurd h2 (by omega)), HI.out⟩
  case round =>
    clear HI
    obtain ⟨lo, hi, rfl, rfl, hlh, hin, h0, h1, hI⟩ := hrel
    have HK := Lib.hid (And.intro h0 (And.intro h1 hI))
    clear h0 h1 hI
    by_cases hlt : lo < hi
    · obtain ⟨m, hm⟩ : ∃ m, (lo + hi) / 2 = m := ⟨_, rfl⟩
      have hmI : ((lo : Int) + hi) / 2 = (m : Int) := by omega
      have m1 : lo ≤ m := by omega
      have m2 : m < hi := by omega
      have CF := Lib.hid (HF.out m wr (by omega) HK.out.2.2)
      clear hm
      cases hp : p m with
      | true =>
        rw [hp] at CF
        have HK2 := Lib.hid (show ∀ t, m ≤ t → t < n → p t = true from fun t ht htn => HM.out m t ht htn hp)
        clear hp
        go_wp2_with fail
        refine Calls.mono CF.out ?_
        rintro e w' ⟨rfl, hI⟩
        have HI2 := Lib.hid hI
        clear hI
        go_wp2_with fail
        refine ⟨⟨lo, m, rfl, rfl, m1, by omega, HK.out.1, HK2.out, HI2.out⟩, by simp [intOf]; omega⟩
      | false =>
        rw [hp] at CF
        have HK2 := Lib.hid (show ∀ t, t < m + 1 → p t = false from fun t ht => by
          cases h : p t with
          | false => rfl
          | true =>
            have := HM.out t m (by omega) (by omega) h
            rw [hp] at this
            cases this)
        clear hp
        go_wp2_with fail
        refine Calls.mono CF.out ?_
        rintro e w' ⟨rfl, hI⟩
        have HI2 := Lib.hid hI
        clear hI
        go_wp2_with fail
        refine ⟨⟨m + 1, hi, by first | rfl | go_num, rfl, by omega, hin, HK2.out, HK.out.2.1, HI2.out⟩, by simp [intOf]; omega⟩
    · obtain rfl : lo = hi := by omega
      go_wp2_with fail
      go_ret
      exact ⟨lo, rfl, hin, HK.out.1, (fun h => HK.out.2.1 lo (Nat.le_refl _) h), HK.out.2.2⟩
end Go.Proofs.YtlehjmanlccncaaGreatDoor
set_option linter.unusedVariables false
set_option linter.unusedSimpArgs false
namespace Go.Proofs.YtlehjmanlccncaaGreatDoor
open Go.RowKit

set_option maxRecDepth 100000 in
set_option maxHeartbeats 1000000 in
theorem greatestC_over (cb : Array Value) (B b0 b1 lo i : Nat) (P : Nat → Bool) (J : World → Prop) (w : World) (hJ : J w)
    (hb : b0 = B ∧ b1 = B + 1 ∧ B + 2 ≤ w.heap.size) (c0 : w.cell? ⟨b0, 0, none⟩ = some (.int .i64 lo)) (c1 : w.cell? ⟨b1, 0, none⟩ = some (.func (.func 118) #[] cb)) (hlo : lo + i + 1 ≤ 9999)
    (hf : ∀ W, J W → B ≤ W.heap.size → Calls Tryz.prog 118 (#[.int .i64 ((lo + i + 1 : Nat) : Int)] ++ cb) W fun e w' => e = .returned (.bool (P (lo + i + 1))) ∧ J w' ∧ W.heap.size ≤ w'.heap.size ∧ ∀ b, B ≤ b → b < W.heap.size → w'.heap[b]? = W.heap[b]?) :
    Calls Tryz.prog 132 (#[.int .i64 i] ++ #[.pointer (some ⟨b1, 0, none⟩), .pointer (some ⟨b0, 0, none⟩)]) w fun e w' => e = .returned (.bool (!P (lo + i + 1))) ∧ (J w' ∧ B + 2 ≤ w'.heap.size ∧ w'.cell? ⟨b0, 0, none⟩ = some (.int .i64 lo) ∧ w'.cell? ⟨b1, 0, none⟩ = some (.func (.func 118) #[] cb)) := by
  have CF := Lib.hid (hf w hJ (by omega))
  rw [show ((lo + i + 1 : Nat) : Int) = (lo : Int) + i + 1 by omega] at CF
  have H0 := Lib.hid c0
  have H1 := Lib.hid c1
  have HB := Lib.hid hb
  clear hf hJ hb
  go_enter Tryz.func132, Tryz.ntmps132
  go_wp2_with fail
  refine Calls.mono CF.out ?_
  rintro e w' ⟨rfl, hJ, hs, hk⟩
  have HK := Lib.hid (show J w' ∧ B + 2 ≤ w'.heap.size ∧ w'.cell? ⟨b0, 0, none⟩ = some (.int .i64 lo) ∧ w'.cell? ⟨b1, 0, none⟩ = some (.func (.func 118) #[] cb) from by
    obtain ⟨e0, e1, e2⟩ := HB.out
    exact ⟨hJ, by omega, (World.cell?_of_block (a := ⟨b0, 0, none⟩) (hk b0 (by omega) (by omega))).trans H0.out, (World.cell?_of_block (a := ⟨b1, 0, none⟩) (hk b1 (by omega) (by omega))).trans H1.out⟩)
  clear hJ hs hk
  go_wp2_with fail
  go_ret
  exact ⟨rfl, HK.out⟩
set_option maxRecDepth 100000 in
set_option maxHeartbeats 1000000 in
theorem greatest_over (cb : Array Value) (lo hi : Nat) (P : Nat → Bool) (J : World → Prop) (w : World) (h : lo ≤ hi) (hhi : hi ≤ 9999) (hJ0 : J w) (hJs : ∀ W W', J W → Below W.heap.size W W' → J W')
    (hf : ∀ (d : Nat) (W : World), d ≤ hi → J W → w.heap.size ≤ W.heap.size → Calls Tryz.prog 118 (#[.int .i64 d] ++ cb) W fun e w' => e = .returned (.bool (P d)) ∧ J w' ∧ W.heap.size ≤ w'.heap.size ∧ ∀ b, w.heap.size ≤ b → b < W.heap.size → w'.heap[b]? = W.heap[b]?)
    (hP : P lo = true) (hmono : ∀ a b, a ≤ b → b ≤ hi → P b = true → P a = true) :
    Calls Tryz.prog 117 #[.int .i64 lo, .int .i64 hi, .func (.func 118) #[] cb] w fun e w' => ∃ k : Nat, e = .returned (.int .i64 k) ∧ lo ≤ k ∧ k ≤ hi ∧ P k = true ∧ (k < hi → P (k + 1) = false) ∧ J w' := by
  obtain ⟨b0, hb0⟩ : ∃ b, b = w.heap.size := ⟨_, rfl⟩
  obtain ⟨b1, hb1⟩ : ∃ b, b = w.heap.size + 1 := ⟨_, rfl⟩
  obtain ⟨n, hn⟩ : ∃ n, hi - lo = n := ⟨_, rfl⟩
  have hnI : (hi : Int) - lo = (n : Int) := by omega
  have wn : IntKind.i64.wrap (n : Int) = (n : Int) := by simp [IntKind.wrap, IntKind.bits, IntKind.signed]; omega
  have CS := Lib.hid (fun (W : World) (hI : J W ∧ w.heap.size + 2 ≤ W.heap.size ∧ W.cell? ⟨b0, 0, none⟩ = some (.int .i64 lo) ∧ W.cell? ⟨b1, 0, none⟩ = some (.func (.func 118) #[] cb)) =>
    search_any #[.pointer (some ⟨b1, 0, none⟩), .pointer (some ⟨b0, 0, none⟩)] n (fun i => !P (lo + i + 1)) (fun W => J W ∧ w.heap.size + 2 ≤ W.heap.size ∧ W.cell? ⟨b0, 0, none⟩ = some (.int .i64 lo) ∧ W.cell? ⟨b1, 0, none⟩ = some (.func (.func 118) #[] cb)) W (by omega) hI
      (fun i W' hi' hI' => greatestC_over cb w.heap.size b0 b1 lo i P J W' hI'.1 ⟨hb0, hb1, hI'.2.1⟩ hI'.2.2.1 hI'.2.2.2 (by omega) (fun W'' hJ'' hs'' => hf (lo + i + 1) W'' (by omega) hJ'' hs''))
      (fun a b hab hbn hpa => by
        have hpa : (!P (lo + a + 1)) = true := hpa
        show (!P (lo + b + 1)) = true
        cases hq : P (lo + b + 1) with
        | false => rfl
        | true =>
          rw [hmono (lo + a + 1) (lo + b + 1) (by omega) (by omega) hq] at hpa
          cases hpa))
  have HP := Lib.hid hP
  have HJ := Lib.hid hJ0
  have HS := Lib.hid hJs
  have HN := Lib.hid hn
  clear hf hmono hP hJ0 hJs hn
  go_enter Tryz.func117, Tryz.ntmps117
  go_upto_region 1 with (fail)
  refine wp_named fun w1 hw => ?_
  have R1 : J w1 ∧ w.heap.size + 2 ≤ w1.heap.size ∧ w1.cell? ⟨b0, 0, none⟩ = some (.int .i64 lo) ∧ w1.cell? ⟨b1, 0, none⟩ = some (.func (.func 118) #[] cb) := by
    rw [hw, hb0, hb1]
    refine ⟨HS.out _ _ HJ.out (((Below.refl _ _).alloc (Nat.le_refl _) _).alloc (by simp) _), by simp, ?_, ?_⟩
    · exact ((Row.new w 3 [.int .i64 lo]).alloc _).cell 0
    · have := (Row.new (w.alloc (.cells #[.int .i64 lo] 3)) 135 [.func (.func 118) #[] cb]).cell 0
      rw [World.size_alloc] at this
      exact this
  try simp only [World.size_alloc]
  rw [← hb1, ← hb0]
  have R2 : J w1.drew ∧ w.heap.size + 2 ≤ w1.drew.heap.size ∧ w1.drew.cell? ⟨b0, 0, none⟩ = some (.int .i64 lo) ∧ w1.drew.cell? ⟨b1, 0, none⟩ = some (.func (.func 118) #[] cb) := ⟨HS.out _ _ R1.1 (Below.refl _ _).drew, R1.2.1, R1.2.2.1, R1.2.2.2⟩
  have CS2 := Lib.hid (CS.out _ R2)
  have c0 := R2.2.2.1
  have c00 : w1.cell? ⟨b0, 0, none⟩ = some (.int .i64 lo) := c0
  clear hw R1 R2 CS hb0 hb1
  first | (go_region_held3 (fun w' => w'.cell? ⟨b0, 0, none⟩ = some (.int .i64 lo)) (first | assumption | go_keep) (first
    | (go_at_call 131; with_reducible refine Calls.mono CS2.out ?_; rintro e w2 ⟨k, rfl, hk, ht, hkn, hI⟩; have HK := Lib.hid (And.intro ht (And.intro hkn hI)); have c2 := hI.2.2.1; clear ht hkn hI))) | fail
  go_wp2_with fail
  go_ret
  have hsum : IntKind.i64.wrap ((lo : Int) + k) = ((lo + k : Nat) : Int) := by
    have := HN.out
    simp [IntKind.wrap, IntKind.bits, IntKind.signed]
    omega
  refine ⟨lo + k, retv (vint hsum), by omega, by have := HN.out; omega, ?_, ?_, HK.out.2.2.1⟩
  · rcases Nat.eq_zero_or_pos k with h0 | h0
    · rw [h0]; exact HP.out
    · have := HK.out.1 (k - 1) (by omega)
      rw [show lo + (k - 1) + 1 = lo + k by omega] at this
      simpa using this
  · intro hlt
    have := HK.out.2.1 (by have := HN.out; omega)
    simpa using this
end Go.Proofs.YtlehjmanlccncaaGreatDoor
set_option linter.unusedVariables false
set_option linter.unusedSimpArgs false
namespace Go.Proofs.YtlehjmanlccncaaGreatDoor
open Go.RowKit

/-- the numbers that bounds divides -/
theorem bounds_nums {R b n : Nat} (hb : 0 < b) (hR : R < b * 10000) (hn : (In.gs b).length = n) :
    0 < dig b ((n : Int) - 1) * 10000 + dig b ((n : Int) - 2) ∧
    ((dig R n * 10000 + dig R ((n : Int) - 1)) * 10000 + dig R ((n : Int) - 2)) / (dig b ((n : Int) - 1) * 10000 + dig b ((n : Int) - 2) + 1) ≤ R / b ∧
    R / b ≤ ((dig R n * 10000 + dig R ((n : Int) - 1)) * 10000 + dig R ((n : Int) - 2)) / (dig b ((n : Int) - 1) * 10000 + dig b ((n : Int) - 2)) := by
  have hbl := In.gs_lt_pow b
  rw [hn] at hbl
  match n, hn with
  | 0, hn =>
    have := In.gs_nil.1 hn
    omega
  | 1, hn =>
    have e1 : ((1 : Nat) : Int) - 1 = ((0 : Nat) : Int) := rfl
    have e2 : dig R (((1 : Nat) : Int) - 2) = 0 := by unfold dig; rw [if_neg (by omega)]
    have e3 : dig b (((1 : Nat) : Int) - 2) = 0 := by unfold dig; rw [if_neg (by omega)]
    rw [e1, e2, e3, dig_nat, dig_nat, dig_nat, Nat.pow_zero, Nat.pow_one, Nat.div_one, Nat.div_one]
    rw [Nat.pow_one] at hbl
    have e4 : b % 10000 = b := Nat.mod_eq_of_lt hbl
    have e5 : R / 10000 % 10000 * 10000 + R % 10000 = R := by
      have : R / 10000 < 10000 := by omega
      omega
    rw [e4, e5, Nat.add_zero, Nat.add_zero]
    obtain ⟨h1, h2⟩ := In.quo_bounds_one (R := R) hb
    exact ⟨by omega, h1, h2⟩
  | k + 2, hn =>
    have e1 : ((k + 2 : Nat) : Int) - 1 = ((k + 1 : Nat) : Int) := by omega
    have e2 : ((k + 2 : Nat) : Int) - 2 = (k : Int) := by omega
    obtain ⟨h1, h2⟩ := In.gs_two hn
    have hR3 : R < 10000 ^ (k + 3) := by
      rw [Nat.pow_succ]
      have : b * 10000 < 10000 ^ (k + 2) * 10000 := Nat.mul_lt_mul_of_pos_right hbl (by decide)
      exact Nat.lt_trans hR this
    have h3 := In.gs_three hR3
    rw [e1, e2, dig_nat, dig_nat, dig_nat, dig_nat, dig_nat, h1, h3]
    have hp : 0 < b / 10000 ^ k := by
      have := In.div_up b 10000 k
      omega
    exact ⟨hp, In.quo_bounds hb hp⟩

set_option maxRecDepth 100000 in
set_option maxHeartbeats 2000000 in
theorem bounds_any (u v : Value) (R b : Nat) (w : World) (hu : NSl w u R) (hv : NSl w v b) (hb : 0 < b) (hR : R < b * 10000) (lb : (In.gs b).length ≤ 1000) :
    Calls Tryz.prog 116 #[u, v] w fun e w' => ∃ lo hi : Nat, e = .returned (.tuple #[.int .i64 lo, .int .i64 hi]) ∧ lo ≤ R / b ∧ R / b ≤ hi ∧ hi ≤ 9999 ∧ Below w.heap.size w w' := by
  obtain ⟨o, c, rfl, a1, a2, a3, a4⟩ := hu.ex
  obtain ⟨o', c', rfl, b1, b2, b3, b4⟩ := hv.ex
  obtain ⟨LR, hLR⟩ : ∃ L, (In.gs R).length = L := ⟨_, rfl⟩
  obtain ⟨n, hn⟩ : ∃ L, (In.gs b).length = L := ⟨_, rfl⟩
  obtain ⟨hV0, hlo, hhi⟩ := bounds_nums hb hR hn
  have hq : R / b ≤ 9999 := by
    have : R / b < 10000 := (Nat.div_lt_iff_lt_mul hb).2 (by rw [Nat.mul_comm]; exact hR)
    omega
  rw [hLR] at a1 ⊢
  rw [hn] at b1 lb ⊢
  have hn1 : 1 ≤ n := by
    rcases Nat.eq_zero_or_pos n with h | h
    · rw [h] at hn
      have := In.gs_nil.1 hn
      omega
    · exact h
  have g2 := dig_lt R n
  have g1 := dig_lt R ((n : Int) - 1)
  have g0 := dig_lt R ((n : Int) - 2)
  have f1 := dig_lt b ((n : Int) - 1)
  have f0 := dig_lt b ((n : Int) - 2)
  have hx := In.gs_at (n := b) (i := n - 1) (by rw [hn]; omega)
  rw [← dig_nat, show ((n - 1 : Nat) : Int) = (n : Int) - 1 by omega] at hx
  have C2 := Lib.hid (fun W (h : LSl W o (In.gs R)) => group_any o LR c R (n : Int) W hLR h)
  have C1 := Lib.hid (fun W (h : LSl W o (In.gs R)) => group_any o LR c R ((n : Int) - 1) W hLR h)
  have C0 := Lib.hid (fun W (h : LSl W o (In.gs R)) => group_any o LR c R ((n : Int) - 2) W hLR h)
  have K0 := Lib.hid (fun (k : Kin w) (h : LSl k.it o' (In.gs b)) => group_any o' n c' b ((n : Int) - 2) k.it hn h)
  have HA := Lib.hid a4
  have HB := Lib.hid b4
  generalize dig R n = x2 at *
  generalize dig R ((n : Int) - 1) = x1 at *
  generalize dig R ((n : Int) - 2) = x0 at *
  generalize dig b ((n : Int) - 1) = y1 at *
  generalize dig b ((n : Int) - 2) = y0 at *
  rcases b4 with h | ⟨p, off, rfl, hp, hcell⟩
  · rw [h] at hx; simp at hx
  have c1 := hcell (n - 1) y1 hx
  have c2 : w.cell? ⟨p, off + ((n : Int) - 1).toNat, none⟩ = some (natV y1) := by rw [show ((n : Int) - 1).toNat = n - 1 by omega]; exact c1
  have i1 : (0 : Int) ≤ (n : Int) - 1 := by omega
  have i2 : (n : Int) - 1 < (n : Int) := by omega
  have i3 : ¬ (n : Int) - 1 < 0 := by omega
  have HQ := Lib.hid (And.intro hlo (And.intro hhi hq))
  have HV0 := Lib.hid hV0
  clear a4 hu hv hcell hx hn hLR hlo hhi hq hb hR hV0
  go_enter Tryz.func116, Tryz.ntmps116
  go_upto_region 3 with (go_at_call 124; first | (with_reducible refine Calls.mono (C2.out _ HA.out) ?_; rintro e w' ⟨rfl, rfl⟩) | (with_reducible refine Calls.mono (C1.out _ HA.out) ?_; rintro e w' ⟨rfl, rfl⟩) | (with_reducible refine Calls.mono (C0.out _ HA.out) ?_; rintro e w' ⟨rfl, rfl⟩))
  refine wp_region_kin (by kernel_rfl) (by kernel_rfl) w.heap.size 0 (by simp) (fun hk => ?_)
  repeat (go_big_quiet_step (first | (go_at_call 124; with_reducible exact Calls.kin_same (K0.out _ (HB.out.next (Kin.below _))))))
  refine wpQuiet_nil ?_
  clear hk
  intro W2 hb
  have HBW := Lib.hid hb
  obtain ⟨D, hD⟩ : ∃ D, (x2 * 10000 + x1) * 10000 + x0 = D := ⟨_, rfl⟩
  obtain ⟨V, hV⟩ : ∃ V, y1 * 10000 + y0 = V := ⟨_, rfl⟩
  have hDI : ((x2 : Int) * 10000 + x1) * 10000 + x0 = (D : Int) := by omega
  have hVI : (y1 : Int) * 10000 + y0 = (V : Int) := by omega
  have hD9 : D ≤ 1000000000000 := by omega
  have hV9 : V ≤ 100000000 := by omega
  rw [hD, hV] at HQ
  rw [hV] at HV0
  rw [hDI, hVI]
  have hV0 := HV0.out
  have v1 : ¬ (V : Int) = 0 := by omega
  have v2 : ¬ (V : Int) + 1 = 0 := by omega
  clear hD hV hDI hVI g0 g1 g2 f0 f1 c1 c2 hb i1 i2 i3 C0 C1 C2 K0
  go_upto_region 4 with (fail)
  refine wp_region_kin (by kernel_rfl) (by kernel_rfl) W2.heap.size 0 (by simp) (fun hk => ?_)
  repeat (go_big_quiet_step (fail))
  refine wpQuiet_nil ?_
  clear hk
  intro W3 hb
  have HB3 := Lib.hid (Below.andThen HBW.out hb)
  clear hb
  go_wp2_with fail
  go_ret2
  obtain ⟨h1, h2, h3⟩ := HQ.out
  refine ⟨D / (V + 1), min 9999 (D / V), ?_, h1, by omega, by omega, HB3.out⟩
  show Ending.returned (.tuple #[.int .i64 _, .int .i64 _]) = _
  have e1 : (D : Int) / ((V : Int) + 1) = ((D / (V + 1) : Nat) : Int) := by
    rw [Int.natCast_ediv]
    rfl
  have e2 : (D : Int) / (V : Int) = ((D / V : Nat) : Int) := by rw [Int.natCast_ediv]
  have l1 : D / (V + 1) ≤ D := Nat.div_le_self _ _
  have l2 : D / V ≤ D := Nat.div_le_self _ _
  rw [e1, e2]
  generalize D / (V + 1) = q1 at *
  generalize D / V = q2 at *
  have e3 : min (9999 : Int) (q2 : Int) = ((min 9999 q2 : Nat) : Int) := by omega
  have w1 : wrap64 (q1 : Int) = (q1 : Int) := by unfold wrap64; omega
  have w2 : wrap64 (q2 : Int) = (q2 : Int) := by clear w1; unfold wrap64; omega
  rw [w1, w2, e3]
end Go.Proofs.YtlehjmanlccncaaGreatDoor
set_option linter.unusedVariables false
set_option linter.unusedSimpArgs false
namespace Go.Proofs.YtlehjmanlccncaaGreatDoor
open Go.RowKit

theorem cmpN_le (a b : Nat) : decide (In.cmpN a b ≤ 0) = decide (a ≤ b) := by
  rcases Nat.lt_trichotomy a b with h | h | h
  · rw [In.cmpN_lt h, decide_eq_true (by omega), decide_eq_true (by omega)]
  · rw [h, In.cmpN_eq, decide_eq_true (by omega), decide_eq_true (by omega)]
  · rw [In.cmpN_gt h, decide_eq_false (by omega), decide_eq_false (by omega)]
theorem cmpN_neg (a b : Nat) : decide (In.cmpN a b < 0) = decide (a < b) := by
  rcases Nat.lt_trichotomy a b with h | h | h
  · rw [In.cmpN_lt h, decide_eq_true (by omega), decide_eq_true (by omega)]
  · rw [h, In.cmpN_eq, decide_eq_false (by omega), decide_eq_false (by omega)]
  · rw [In.cmpN_gt h, decide_eq_false (by omega), decide_eq_false (by omega)]
set_option maxRecDepth 100000 in
set_option maxHeartbeats 2000000 in
theorem over1_any (v u : Value) (b R d bm br : Nat) (w : World) (hv : NSl w v b) (hu : NSl w u R) (cm : w.cell? ⟨bm, 0, none⟩ = some (.func (.func 114) #[v] #[])) (cr : w.cell? ⟨br, 0, none⟩ = some u) (lm : bm < w.heap.size) (lr : br < w.heap.size)
    (lb : (In.gs b).length ≤ 990) (lR : (In.gs R).length ≤ 1000) (hd : d < 10000) :
    Calls Tryz.prog 118 (#[.int .i64 d] ++ #[.pointer (some ⟨bm, 0, none⟩), .pointer (some ⟨br, 0, none⟩)]) w fun e w' => e = .returned (.bool (decide (b * d ≤ R))) ∧ Below w.heap.size w w' := by
  have HV := Lib.hid hv
  have HU := Lib.hid hu
  have h00 : Below w.heap.size w w.drew := (Below.refl _ _).drew
  have l2 : (In.gs (b * d)).length ≤ 1000 := by
    have h := gs_len_mul b d
    have e : (In.gs d).length ≤ 1 := In.gr_len_le (by decide) 1 d (by omega)
    omega
  have c1 : w.drew.cell? ⟨bm, 0, none⟩ = some (.func (.func 114) #[v] #[]) := cm
  have c2 : w.drew.cell? ⟨br, 0, none⟩ = some u := cr
  have CS := Lib.hid (scaled_any v b d w.drew (hv.next h00) (by omega) hd)
  have HD := Lib.hid (cmpN_le (b * d) R)
  clear hv hu
  go_enter Tryz.func118, Tryz.ntmps118
  go_upto_region 1 with (fail)
  first | (go_region_held3 (fun w' => w'.cell? ⟨bm, 0, none⟩ = some (.func (.func 114) #[v] #[]) ∧ w'.cell? ⟨br, 0, none⟩ = some u) (first | exact ⟨by assumption, by assumption⟩ | go_keep) (first
    | (go_at_call 114; with_reducible refine Calls.mono CS.out ?_; rintro e wa ⟨r1, rfl, hn1, hb1⟩; have HA := Lib.hid (And.intro hn1 (Below.andThen h00 hb1)); have na := (HA.out.2.cell (p := ⟨bm, 0, none⟩) lm).trans cm; have nr := (HA.out.2.cell (p := ⟨br, 0, none⟩) lr).trans cr; clear hn1 hb1)
    | (go_at_call 106; with_reducible refine Calls.mono (compare_any r1 u (b * d) R _ HA.out.1 (HU.out.next HA.out.2) l2 lR) ?_; rintro e wb ⟨rfl, hb2⟩; have HB := Lib.hid (Below.andThen HA.out.2 hb2); have nb := (HB.out.cell (p := ⟨bm, 0, none⟩) lm).trans cm; have nq := (HB.out.cell (p := ⟨br, 0, none⟩) lr).trans cr; clear hb2))) | fail
  go_wp2_with fail
  go_ret
  exact ⟨retv (congrArg Value.bool HD.out), HB.out⟩
end Go.Proofs.YtlehjmanlccncaaGreatDoor
