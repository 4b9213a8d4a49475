/- For every input, DiskMatchesReference returns true and leaves its arguments as they were. -/
import Derived.Test.YtgmghfgcpjpigaaDiskStep
import Derived.Test.YtgmghfgcpjpigaaDiskSteps
import Derived.Deep.RegionWith
namespace Go.Proofs.Ytgmghfgcpjpigaa
open Go.RowKit Go.ChangeShapes Go.WideShapes Go.ChangeAt

section
variable {W0 w w' : World} {D R n : Nat} {s s2 : DS}
theorem Pair.pending (h : Pair W0 w D R n s s2) : Calls Try.prog 17 #[at_ D] w fun e w' => e = .returned (.int .i64 s.pend.length) ∧ w = w' := by
  obtain ⟨F1, _, o1, _⟩ := h
  exact pending_of D n F1 s w o1.disk
theorem Pair.size (h : Pair W0 w D R n s s2) : Calls Try.prog 16 #[at_ D] w fun e w' => e = .returned (.int .i64 n) ∧ w = w' := by
  obtain ⟨F1, _, o1, _⟩ := h
  exact size_of D n F1 s w o1.disk
theorem Pair.read (h : Pair W0 w D R n s s2) (hn : n ≤ 400) : Calls Try.prog 14 #[at_ D, .int .i64 0, .int .i64 n] w fun e w' => e = .returned (.tuple #[.string (s.readV 0 n), .int .i64 (s.readE 0 n)]) ∧ w = w' := by
  obtain ⟨F1, _, o1, _⟩ := h
  exact read_any D n F1 s 0 n w o1.disk (by omega) (by omega)
theorem Pair.refRead (h : Pair W0 w D R n s s2) (hn : n ≤ 400) (hp : s2.pend.length ≤ 500) : Calls Try.prog 20 #[at_ R, .int .i64 0, .int .i64 n] w fun e w' => e = .returned (.tuple #[.string (s2.readV 0 n), .int .i64 (s2.readE 0 n)]) ∧ Below w.heap.size w w' := by
  obtain ⟨_, F2, _, r2, _⟩ := h
  exact refRead_any R n F2 s2 0 n w r2 (by omega) (by omega) (by omega)
theorem Pair.list (h : Pair W0 w D R n s s2) : ∃ po pc, w.cell? ⟨R, 1, none⟩ = some (.slice po s2.pend.length pc) := by
  obtain ⟨_, F2, _, r2, _⟩ := h
  obtain ⟨G, sc, lv, h, rfl⟩ := r2
  have := (row4 h.head).2.1
  rcases h.pend.2 with ⟨rfl, e⟩ | ⟨g, cap, cur, rfl, _⟩
  · exact ⟨none, 0, by rw [e]; exact this⟩
  · exact ⟨_, _, this⟩
end

set_option maxRecDepth 100000 in
set_option maxHeartbeats 4000000 in
theorem matchesReference_any (z : Int) (o : Option Addr) (len cap : Nat) (L : Nat → StepP) (w : World) (bz : -9223372036854775808 ≤ z ∧ z ≤ 9223372036854775807) (_ : len ≤ maxLen)
    (b1 : ∀ i, i < len → (L i).Fits w)
    (b2 : ∀ i, i < len → ∃ a, o = some a ∧ ∀ w', Below w.heap.size w w' → w'.cell? (a.add (i * 5)) = some (.int .i64 (L i).c) ∧ w'.cell? ⟨(a.add (i * 5)).block, (a.add (i * 5)).off + 1, none⟩ = some (.int .i64 (L i).a) ∧
        w'.cell? ⟨(a.add (i * 5)).block, (a.add (i * 5)).off + 2, none⟩ = some (.int .i64 (L i).m) ∧ w'.cell? ⟨(a.add (i * 5)).block, (a.add (i * 5)).off + 3, none⟩ = some (.string (L i).S) ∧ w'.cell? ⟨(a.add (i * 5)).block, (a.add (i * 5)).off + 4, none⟩ = some (.slice (L i).ko (L i).kl (L i).kc)) :
    Calls Try.prog 4 #[.int .i64 z, .slice o len cap] w fun r w' => r = .returned (.bool true) ∧ Below w.heap.size w w' := by
  have HB1 := Lib.hid b1
  have HB2 := Lib.hid b2
  have pb := pick_bd z 400 (by omega)
  obtain ⟨n, en⟩ : ∃ n : Nat, (n : Int) = 1 + pickZ z 400 := ⟨(1 + pickZ z 400).toNat, by omega⟩
  have CP := Lib.hid (fun w => pick_any z 400 w (by omega) bz.1 bz.2)
  have n1 : 1 ≤ n := by omega
  have n2 : n ≤ 400 := by omega
  have EN := Lib.hid en
  obtain ⟨pb1, pb2⟩ := pb
  clear b1 b2 en
  go_enter Try.func4, Try.ntmps4
  go_wp2_with fail
  refine (sane_any _).mono ?_
  rintro e w1 ⟨rfl, hb⟩
  have HB := Lib.hid hb
  clear hb
  go_upto_region 2 with (fail)
  go_cut [0] (fun v wx => v = .int .i64 n ∧ wx = w1)
  case first =>
    go_wp2_with fail
    refine (CP.out _).mono ?_
    rintro e w2 ⟨rfl, rfl⟩
    go_wp2_with fail
    go_meet
    exact ⟨congrArg (Value.int .i64) EN.out.symm, rfl⟩
  obtain ⟨rfl, rfl⟩ := hcut
  rename World => w1
  clear pb1 pb2
  go_wp2_with fail
  refine (new_any n w1 n1 (by omega)).mono ?_
  rintro e w2 ⟨D, F, rfl, hb, hD, hF⟩
  have O := Lib.hid (On.new HB.out hb hD hF)
  have B2 := Lib.hid (Below.andThen HB.out hb)
  clear hb hD hF HB
  go_wp2_with fail
  refine (refNew_any n w2 n1 (by omega)).mono ?_
  rintro e w3 ⟨R, F2, rfl, hb, hD, hF⟩
  have P0 := Lib.hid (show Pair w w3 D R n (DS.fresh n) (DS.fresh n) from ⟨F, F2, O.out.next hb, hD, fun k hk => Nat.le_trans B2.out.size (hF k hk), fun k h1 h2 => absurd (O.out.disk.lt k h1) (by have := hF k h2; omega)⟩)
  clear hb hD hF O B2
  go_wp2_with fail
  go_loopw [10] (fun i wr => ∃ (k : Nat) (s : DS), k ≤ 60 ∧ i = .int .i64 k ∧ Pair w wr D R n s s ∧ s.pend.length ≤ k) (fun i _ => 60 - (intOf i).toNat)
  case atStart => exact ⟨0, DS.fresh n, by omega, rfl, P0.out, Nat.le_refl _⟩
  case round =>
    clear P0
    obtain ⟨k, s, hk, rfl, hP, hp⟩ := hrel
    by_cases hgo : k < len ∧ k < 60
    · obtain ⟨hl, h60⟩ := hgo
      obtain ⟨ad, rfl, hc⟩ := HB2.out k hl
      obtain ⟨x0, x1, x2, x3, x4, x5⟩ := HB1.out k hl
      obtain ⟨c0, c1, c2, c3, c4⟩ := hc wr hP.below
      have ST := Lib.hid (fun w' (hT : Pair w w' D R n s s) => step_any D R n s (L k).c (L k).a (L k).m (L k).S (L k).ko (L k).kl (L k).kc (L k).K w w' hT n2 (by omega) x0 x1 x2 x3 x4 x5)
      generalize (L k).c = d0 at *
      generalize (L k).a = d1 at *
      generalize (L k).m = d2 at *
      generalize (L k).S = d3 at *
      generalize (L k).ko = d4 at *
      generalize (L k).kl = d5 at *
      generalize (L k).kc = d6 at *
      have hPd : Pair w wr.drew D R n s s := hP.next (Below.refl _ _).drew
      have PL := Lib.hid (show ∀ s' : DS, s'.pend.length ≤ s.pend.length + 1 → s'.pend.length ≤ k + 1 by intro s' h; omega)
      clear hc x0 x1 x2 x3 x4 x5 hP hp
      go_upto_region 10 with (fail)
      go_region_with (first
        | (go_at_call 19; with_reducible refine Calls.mono (ST.out _ (by assumption)) ?_; rintro e wx ⟨rfl, s', hP', hlen⟩; obtain ⟨po, pc, hcell⟩ := Pair.list hP')
        | (go_at_call 17; with_reducible refine Calls.mono (Pair.pending (by assumption)) ?_; rintro e wx ⟨rfl, rfl⟩)
        | (go_at_call 16; with_reducible refine Calls.mono (Pair.size (by assumption)) ?_; rintro e wx ⟨rfl, rfl⟩))
      all_goals
        have P1 := Lib.hid hP'
        have hl' := Lib.hid (PL.out _ hlen)
        clear hP' hlen hcell ST hPd PL
        go_wp2_with fail
        refine (P1.out.read n2).mono ?_
        rintro e w5 ⟨rfl, rfl⟩
        go_wp2_with fail
        refine (P1.out.refRead n2 (by have := hl'.out; omega)).mono ?_
        rintro e w6 ⟨rfl, hb⟩
        have P2 := Lib.hid (P1.out.next hb)
        clear hb P1
        go_wp2_with fail
        go_roundw
        case rel => exact ⟨k + 1, _, by omega, by go_num, P2.out, hl'.out⟩
        case measure => simp [intOf]; omega
    · have hgo' : ¬ (k : Int) < len ∨ ((k : Int) < len ∧ ¬ (k : Int) < 60) := by omega
      have PX := Lib.hid hP.below
      clear hgo hP hp
      rcases hgo' with hl | ⟨hl, h60⟩
      all_goals
        go_wp2_with fail
        go_ret
        exact ⟨rfl, PX.out⟩
namespace diskMatchesReference
set_option maxRecDepth 100000 in
theorem contract (H : Type) (enc : TypeId × Value → H) (W : World) (base : Nat) (args : Array Value) (ds gs : List (DataW H)) (before : List MemPlace)
    (hval : ∀ (j : Nat) t v, Try.f4.params[j]? = some t → args[j]? = some v → Value.okWide Try.prog W .any base t v)
    (hW : DataW.Whole enc Try.prog Try.f4.params.toList Rows.diskMatchesReferenceSpec.vars false W args.toList ds gs before) (_hL : laidMetH Try.prog Rows.diskMatchesReferenceRow.laid W) :
    Calls Try.prog 4 args W fun e W' => ∃ v, e = .returned v ∧ Rows.diskMatchesReferenceSpec.post enc Try.prog Try.f4 false true false false W args v W' := by
  have hW' := hW
  obtain ⟨p, q, hA0, hV, rfl, hfz, hnd⟩ := hW
  have hA : DataW.TrodAll enc Try.prog W 0 (fun _ => true) true Try.f4.params.toList args.toList ds p := hA0
  rw [Try.params4] at hA hval
  obtain ⟨v0, vs0, d0, ds0, p0, q0, hargs, rfl, rfl, h0, r0⟩ := trodAll_cons hA
  obtain ⟨v1, vs1, d1, ds1, p1, q1, rfl, rfl, rfl, h1, r1⟩ := trodAll_cons r0
  obtain ⟨rfl, rfl, rfl⟩ := trodAll_nil r1
  obtain rfl : args = #[v0, v1] := by cases args; simp_all
  obtain ⟨a0, rfl, rfl, rfl, k0⟩ := open_int Try.underlying3 (hval 0 _ _ rfl rfl) h0
  obtain ⟨oa1, la1, ca1, a1, rfl, ma1, k1, ga1⟩ := open_stepS Try.underlying32 Try.underlying39 (by kernel_rfl) (by kernel_rfl) (by kernel_rfl) (by kernel_rfl) (by kernel_rfl) (by kernel_rfl) (by kernel_rfl) (by kernel_rfl) Try.underlying3 (by kernel_rfl) (hval 1 _ _ rfl rfl) h1
  refine (matchesReference_any a0 oa1 la1 ca1 a1 W (bd_i64 k0) ma1 k1 ga1).mono fun e W' ⟨he, hb⟩ => ?_
  subst he
  obtain ⟨rfl, _⟩ := trodVars_none hV
  exact ⟨_, rfl, law_post laidOut (by kernel_rfl) rfl (by kernel_rfl) Try.underlying4 hW' rfl hb⟩

def args0 : Array Value := #[.int .i64 0, .slice none 0 0]
theorem laid_met (os : Os) : laidMet Try.prog Rows.diskMatchesReferenceRow.laid ((laidWorld os).forCall (fun _ _ => 0) ⟨#[], args0, []⟩).memory :=
  laidMet_of_run' 8 (by kernel_rfl) (by kernel_rfl)
theorem reads (os : Os) {H : Type} (enc : TypeId × Value → H) : ∃ places, DataW.whole enc Try.prog ((laidWorld os).forCall (fun _ _ => 0) ⟨#[], args0, []⟩).memory Try.f4.params.toList Rows.diskMatchesReferenceSpec.vars false args0.toList 8 = some ([.lit (.int .i64 0), .nil], [], places) :=
  ⟨[], by kernel_rfl⟩

set_option maxRecDepth 100000 in
theorem lifted (os : Os) (started : os.Started) (H : Type) (enc : TypeId × Value → H) (F : Stop.Interp) :
    ReturnsInHanded {} Try.checked os 4 .any ((OpenSpec.ofChange Rows.diskMatchesReferenceSpec).preRow enc Try.prog Try.f4 Rows.diskMatchesReferenceRow.domain false Rows.diskMatchesReferenceRow.laid) (((OpenSpec.ofChange Rows.diskMatchesReferenceSpec).at F).post enc Try.prog Try.f4 false true false false) := by
  obtain ⟨places, hx⟩ := reads os enc
  refine returnsInHanded_of_row (C := Try.checked) (s := OpenSpec.ofChange Rows.diskMatchesReferenceSpec) own started (by kernel_rfl) Try.func4
    (witness_row_at (enc := enc) (C := Try.checked) false (laidWorld os) args0 rfl (by kernel_rfl) (by kernel_rfl) (by kernel_rfl)
      (OpenSpec.preRow_of_cond 8 hx (by kernel_rfl) (fun k hk => by cases hk) (by kernel_rfl) (laid_met os))) ?_
  intro W base args ds gs before hval hW _ _ _ hL _ _
  exact contract H enc W base args ds gs before hval hW hL

theorem said : Rows.DiskMatchesReferenceSaid :=
  OpenClaim.holds_of_cond 4 Try.f4 rfl rfl rfl rfl rfl rfl rfl ⟨rfl, rfl, rfl, rfl, rfl⟩ rfl rfl rfl rfl rfl (by kernel_rfl) Try.func4 (by kernel_rfl)
    (of_decide_eq_true (by kernel_rfl)) (by unfold Func.isWrapper; first | (rw [if_pos (by decide +kernel)]; kernel_rfl) | (rw [if_neg (by decide +kernel)]; exact ⟨rfl, rfl⟩))
    (fun os started H enc _ F => by rw [OpenClaim.pre_eq_preRow]; exact lifted os started H enc F)

end diskMatchesReference
end Go.Proofs.Ytgmghfgcpjpigaa
