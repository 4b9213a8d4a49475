/- Natural numbers in groups: sums, differences, multiples. -/
import Derived.Test.YtjhnfejlkljkjaaGreatDoorIntA
namespace Go.Proofs.YtjhnfejlkljkjaaGreatDoor
open Go.RowKit

theorem infoInt : (Tryz.prog.info? 3).map (fun i => (i.zero, i.size, i.bytes)) = some (some (.int .i64 0), 1, 8) := by kernel_rfl
theorem info_parts {P : Program} {t : TypeId} {z : Value} {s b : Nat} (h : (P.info? t).map (fun i => (i.zero, i.size, i.bytes)) = some (some z, s, b)) : ∃ i, P.info? t = some i ∧ i.zero = some z ∧ i.size = s ∧ i.bytes = b := by
  cases hq : P.info? t with
  | none => simp [hq] at h
  | some i =>
    simp [hq] at h
    exact ⟨i, rfl, h.1, h.2.1, h.2.2⟩
/-- groups, with zeros behind them -/
def padL (ds : List Nat) (N : Nat) : List Value := (ds ++ List.replicate (N - ds.length) 0).map natV
theorem padL_length {ds : List Nat} {N : Nat} (h : ds.length ≤ N) : (padL ds N).length = N := by simp [padL]; omega
theorem padL_set {ds : List Nat} {N : Nat} (h : ds.length < N) (x : Nat) : (padL ds N).set ds.length (natV x) = padL (ds ++ [x]) N := by
  unfold padL
  obtain ⟨n, hn⟩ : ∃ n, N - ds.length = n + 1 := ⟨N - ds.length - 1, by omega⟩
  have e : N - (ds ++ [x]).length = n := by simp; omega
  rw [hn, e, List.replicate_succ, ← List.map_set, List.set_append_right _ _ (Nat.le_refl _), Nat.sub_self]
  simp
theorem padL_full {ds : List Nat} {N : Nat} (h : ds.length = N) : padL ds N = ds.map natV := by simp [padL, h]
theorem zeros_padL (N : Nat) : List.replicate N (Value.int .i64 0) = padL [] N := by simp [padL]
theorem row_zeros (w : World) (N : Nat) (t : TypeId) : Row (w.alloc (.cells (Array.replicate N (.int .i64 0)) t)) w.heap.size t (padL [] N) := by
  have h := Row.new w t (List.replicate N (.int .i64 0))
  rw [zeros_padL, show (padL [] N).toArray = Array.replicate N (Value.int .i64 0) by rw [← zeros_padL]; simp] at h
  exact h
theorem row_sl {w : World} {b : Nat} {t : TypeId} {ds : List Nat} (h : Row w b t (ds.map natV)) : LSl w (some ⟨b, 0, none⟩) ds := by
  refine .inr ⟨b, 0, rfl, h.lt, fun j x hx => ?_⟩
  rw [Nat.zero_add, h.cell, List.getElem?_map, hx]
  rfl
theorem lt_snoc {ds : List Nat} {x : Nat} (h : ∀ y ∈ ds, y < 10000) (hx : x < 10000) : ∀ y ∈ ds ++ [x], y < 10000 := by
  intro y hy
  rcases List.mem_append.1 hy with h1 | h1
  · exact h y h1
  · rw [List.mem_singleton.1 h1]; exact hx

set_option maxRecDepth 100000 in
set_option maxHeartbeats 2000000 in
theorem plus_any (u v : Value) (a b : Nat) (w : World) (hu : NSl w u a) (hv : NSl w v b) (ha : (In.gs a).length ≤ 1000) (hb : (In.gs b).length ≤ 1000) :
    Calls Tryz.prog 54 #[u, v] w fun e w' => ∃ r, e = .returned r ∧ NSl w' r (a + b) ∧ Below w.heap.size w w' := by
  obtain ⟨o, c, rfl, a1, a2, a3, a4⟩ := hu.ex
  obtain ⟨o', c', rfl, b1, b2, b3, b4⟩ := hv.ex
  obtain ⟨i0, hi, hz0, hz1, hz2⟩ := info_parts infoInt
  obtain ⟨LA, hLA⟩ : ∃ L, (In.gs a).length = L := ⟨_, rfl⟩
  obtain ⟨LB, hLB⟩ : ∃ L, (In.gs b).length = L := ⟨_, rfl⟩
  obtain ⟨M, hM⟩ : ∃ M, max LA LB = M := ⟨_, rfl⟩
  rw [hLA] at ha a1 ⊢
  rw [hLB] at hb b1 ⊢
  have hMI : max (LA : Int) (LB : Int) = (M : Int) := by omega
  have mA : LA ≤ M := by omega
  have mB : LB ≤ M := by omega
  have mM : M ≤ 1000 := by omega
  have hmk : (Instr.makeSlice 45 (.int .i64 ((M : Int) + 1)) (.int .i64 ((M : Int) + 1))).run Tryz.prog w = .ok (.slice (some ⟨w.heap.size, 0, none⟩) (M + 1) (M + 1)) (w.alloc (.cells (List.replicate (M + 1) (.int .i64 0)).toArray 3)) := by
    have := run_make_row (P := Tryz.prog) w 45 3 i0 _ 8 Tryz.underlying45 hi hz0 hz1 hz2 rfl (M + 1) (by omega) (by omega)
    exact_mod_cast this
  have CA := Lib.hid (fun W (i : Int) (h : LSl W o (In.gs a)) => group_any o LA c a i W hLA h)
  have CB := Lib.hid (fun W (i : Int) (h : LSl W o' (In.gs b)) => group_any o' LB c' b i W hLB h)
  have HA := Lib.hid a4
  have HB := Lib.hid b4
  have HLA := Lib.hid hLA
  have HLB := Lib.hid hLB
  clear a4 b4 hLA hLB hu hv hM
  go_enter Tryz.func54, Tryz.ntmps54
  go_wp2_with fail
  have HR0 := Lib.hid (And.intro (row_zeros w (M + 1) 3) (show Below w.heap.size w (w.alloc (.cells (Array.replicate (M + 1) (.int .i64 0)) 3)) from (Below.refl _ _).alloc (Nat.le_refl _) _))
  clear hmk hMI
  go_loopw [6, 18] (fun cv iv wr => ∃ (j cr : Nat) (ds : List Nat), j ≤ M + 1 ∧ iv = .int .i64 j ∧ cv = .int .i64 cr ∧ cr ≤ 1 ∧ ds.length = j ∧ (∀ y ∈ ds, y < 10000) ∧ In.nv 10000 ds + 10000 ^ j * cr = a % 10000 ^ j + b % 10000 ^ j ∧ Row wr w.heap.size 3 (padL ds (M + 1)) ∧ Below w.heap.size w wr) (fun _ iv _ => M + 1 - (intOf iv).toNat)
  case atStart => exact ⟨0, 0, [], by omega, rfl, rfl, by omega, rfl, (fun y hy => by cases hy), by simp [In.nv, Nat.mod_one], HR0.out.1, HR0.out.2⟩
  case round =>
    clear HR0
    obtain ⟨j, cr, ds, hj, rfl, rfl, hcr, hdl, hdx, hsum, hR, hB⟩ := hrel
    have HK := Lib.hid (And.intro hdl (And.intro hdx (And.intro hsum (And.intro hR hB))))
    by_cases hlt : j < M + 1
    · have g1 := dig_lt a j
      have g2 := dig_lt b j
      have HD := Lib.hid (show In.nv 10000 (ds ++ [(dig a j + dig b j + cr) % 10000]) + 10000 ^ (j + 1) * ((dig a j + dig b j + cr) / 10000) = a % 10000 ^ (j + 1) + b % 10000 ^ (j + 1) from by
        rw [dig_nat, dig_nat]
        exact In.add_next hdl hsum)
      have hc := hR.cell j
      have hf := hR.frozen j
      obtain ⟨old, ho⟩ : ∃ old, (padL ds (M + 1))[j]? = some old := ⟨_, List.getElem?_eq_getElem (by rw [padL_length (by omega)]; exact hlt)⟩
      rw [ho] at hc
      replace HA := Lib.hid (HA.out.next hB)
      replace HB := Lib.hid (HB.out.next hB)
      have CAJ := Lib.hid (fun W h => CA.out W (j : Int) h)
      have CBJ := Lib.hid (fun W h => CB.out W (j : Int) h)
      clear CA CB
      generalize dig a j = x at *
      generalize dig b j = y at *
      have w1 : IntKind.i64.wrap ((x : Int) + y) = (x : Int) + y := by simp [IntKind.wrap, IntKind.bits, IntKind.signed]; omega
      clear hdl hdx hsum hR hB ho
      go_wp2_with (go_at_call 71; first | (with_reducible refine Calls.mono (CAJ.out _ HA.out) ?_; rintro e w' ⟨rfl, rfl⟩) | (with_reducible refine Calls.mono (CBJ.out _ HB.out) ?_; rintro e w' ⟨rfl, rfl⟩))
      go_roundw
      case rel =>
        obtain ⟨hdl, hdx, hsum, hR, hB⟩ := HK.out
        refine ⟨j + 1, (x + y + cr) / 10000, ds ++ [(x + y + cr) % 10000], by omega, by go_num, by go_num, by omega, by simp [hdl], lt_snoc hdx (Nat.mod_lt _ (by decide)), HD.out, ?_, hB.setCell (by simp) _⟩
        have := hR.set j (natV ((x + y + cr) % 10000))
        rw [← hdl, padL_set (by omega)] at this
        rw [← hdl]
        exact_mod_cast this
      case measure => simp [intOf]; omega
    · obtain rfl : j = M + 1 := by omega
      have hs := In.add_end hdl (by rw [HLA.out]; omega) (by rw [HLB.out]; omega) hsum
      rw [padL_full hdl] at hR
      have CT := Lib.hid (trim_any (some ⟨w.heap.size, 0, none⟩) (M + 1) (M + 1) ds wr hdl hdx (Nat.le_refl _) (by omega) (fun h => by cases h) (row_sl hR))
      rw [hs] at CT
      have HBB := Lib.hid hB
      clear HK hdl hdx hsum hR hB hs hlt hj
      go_wp2_with fail
      with_reducible refine Calls.mono CT.out ?_
      rintro e w3 ⟨r, rfl, hn, hb⟩
      have HF := Lib.hid (And.intro hn (Below.andThen HBB.out hb))
      clear hn hb
      go_wp2_with fail
      go_ret
      exact ⟨_, rfl, HF.out⟩
end Go.Proofs.YtjhnfejlkljkjaaGreatDoor
