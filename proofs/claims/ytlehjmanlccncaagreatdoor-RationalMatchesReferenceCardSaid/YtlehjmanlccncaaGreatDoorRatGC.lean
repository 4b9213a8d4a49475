/- finish. -/
/- combine, Mul, Div: what their instructions calculate. -/
/- combine: Add and Sub. -/
import Derived.Test.YtlehjmanlccncaaGreatDoorRatGB
import Derived.Deep.RegionHeld3
set_option linter.unusedVariables false
set_option linter.unusedSimpArgs false
namespace Go.Proofs.YtlehjmanlccncaaGreatDoor
open Go.RowKit

theorem chain_setJ (w0 : World) (k n c : Nat) (vb : Nat → Nat × Nat) (nb : Nat → Nat) (P : Nat → Ins) (b off : Nat) (s : Nat → ByteArray) (w : World) (T : TabI w0) (hn : n ≤ 10) (hc : n ≤ c) (L : Lay w0 k n vb nb P b) (h : Mach w0 k n vb nb P b off s w) (J : World → Prop) (hJ0 : J w) (hJ : ∀ W wm m v, m < n → J W → Below W.heap.size W wm → J (wm.setCell ⟨(vb (P m).t).1, (vb (P m).t).2, none⟩ v)) :
    Calls Tryz.prog 86 #[.slice (some ⟨b, off, none⟩) n c] w fun e w' =>
      (e = .returned (.bool true) ∧ (∀ m, m < n → er P s m = 0) ∧ Mach w0 k n vb nb P b off (sig P s n) w' ∧ J w') ∨ (e = .returned (.bool false) ∧ (∃ m, m < n ∧ er P s m ≠ 0) ∧ Below w0.heap.size w0 w' ∧ J w') := by
  refine (chain_any n b off c (fun i W => (∀ m, m < i → er P s m = 0) ∧ Mach w0 k n vb nb P b off (sig P s i) W ∧ J W) (fun W => (∃ m, m < n ∧ er P s m ≠ 0) ∧ Below w0.heap.size w0 W ∧ J W) w hn hc ⟨fun m hm => absurd hm (Nat.not_lt_zero _), h, hJ0⟩ ?_).mono (fun _ _ h => h)
  rintro i W hi ⟨hz, hM, hj⟩
  obtain ⟨ht, ha, hb⟩ := L.idx i hi
  refine ⟨_, _, hM.cell i hi, hM.lt, .inl rfl, ?_⟩
  refine (set1_any (P i).o (nb i) _ _ _ _ _ _ W (T.next hM.base) (hM.step i hi) (hM.box _ ha) (hM.box _ hb) (hM.box _ ht)).mono ?_
  rintro e w' ⟨rfl, wm, hwm, rfl⟩
  have hX := hM.exec L hwm ht ((P i).o.sem (sig P s i (P i).a) (sig P s i (P i).b)).1
  by_cases h0 : er P s i = 0
  · left
    refine ⟨by rw [show ((P i).o.sem (sig P s i (P i).a) (sig P s i (P i).b)).2 = 0 from h0], fun m hm => ?_, hX, hJ W wm i _ hi hj hwm⟩
    rcases Nat.lt_or_ge m i with h1 | h1
    · exact hz m h1
    · obtain rfl : m = i := by omega
      exact h0
  · right
    exact ⟨_, h0, rfl, ⟨i, hi, h0⟩, hX.base, hJ W wm i _ hi hj hwm⟩
set_option maxRecDepth 100000 in
set_option maxHeartbeats 8000000 in
theorem finish_any (w0 : World) (k n c : Nat) (vb : Nat → Nat × Nat) (nb : Nat → Nat) (P : Nat → Ins) (b off : Nat) (s : Nat → ByteArray) (w : World) (T : TabI w0) (hn : n ≤ 10) (hc : n ≤ c) (L : Lay w0 k n vb nb P b) (h : Mach w0 k n vb nb P b off s w)
    (ra rb : ByteArray × ByteArray) (jn jd : Nat) (hjn : jn < k) (hjd : jd < k)
    (J : World → Prop) (hJ0 : J w) (hJ1 : ∀ W wm m v, m < n → J W → Below W.heap.size W wm → J (wm.setCell ⟨(vb (P m).t).1, (vb (P m).t).2, none⟩ v)) (hJ2 : ∀ W wm, J W → Below W.heap.size W wm → J wm) (hJ3 : ∀ W b o v, w.heap.size ≤ b → J W → J (W.setCell ⟨b, o, none⟩ v)) :
    Calls Tryz.prog 66 #[ratV ra, ratV rb, ptrA (vb jn), ptrA (vb jd), .slice (some ⟨b, off, none⟩) n c] w fun e w' =>
      ((Ra.val ra).isSome = true → (Ra.val rb).isSome = true → (∀ m, m < n → er P s m = 0) → e = .returned (resV (Ra.makeS (sig P s n jn) (sig P s n jd)))) ∧
      (¬ ((Ra.val ra).isSome = true ∧ (Ra.val rb).isSome = true ∧ ∀ m, m < n → er P s m = 0) → e = .returned (resV none)) ∧ Below w0.heap.size w0 w' ∧ J w' := by
  have HT := Lib.hid T
  have HL := Lib.hid L
  have HM := Lib.hid h
  have VA := Lib.hid (fun W T => Valid_r ra W T)
  have VB := Lib.hid (fun W T => Valid_r rb W T)
  have HJ := Lib.hid (And.intro hJ1 (And.intro hJ2 hJ3))
  have HJ0 := Lib.hid hJ0
  have HN := Lib.hid (And.intro hn (And.intro hc (And.intro hjn hjd)))
  obtain ⟨a1, a2⟩ := ra
  obtain ⟨c1, c2⟩ := rb
  generalize (Ra.val (a1, a2)).isSome = va at *
  generalize (Ra.val (c1, c2)).isSome = vc at *
  clear T L h hn hc hjn hjd hJ0 hJ1 hJ2 hJ3
  go_enter Tryz.func66, Tryz.ntmps66
  go_upto_region 1 with (fail)
  refine wp_named fun w1 hw => ?_
  obtain ⟨b0, hb0⟩ : ∃ x, x = w.heap.size := ⟨_, rfl⟩
  obtain ⟨b1, hb1⟩ : ∃ x, x = w.heap.size + 1 := ⟨_, rfl⟩
  obtain ⟨b2, hb2⟩ : ∃ x, x = w.heap.size + 1 + 1 := ⟨_, rfl⟩
  have R1 : Row w1 b0 23 [.string a1, .string a2] ∧ Row w1 b1 23 [.string c1, .string c2] ∧ Row w1 b2 23 [.string ⟨#[]⟩, .string ⟨#[]⟩] ∧ Below w.heap.size w w1 := by
    rw [hw, hb0, hb1, hb2]
    refine ⟨((Row.new w _ [.string a1, .string a2]).alloc _).alloc _, ?_, ?_, (((Below.refl _ _).alloc (Nat.le_refl _) _).alloc (by simp) _).alloc (by simp; omega) _⟩
    · have h := (Row.new (w.alloc (.cells #[.string a1, .string a2] 23)) 23 [.string c1, .string c2]).alloc (.cells #[.string ⟨#[]⟩, .string ⟨#[]⟩] 23)
      rw [World.size_alloc] at h
      exact h
    · have h := Row.new ((w.alloc (.cells #[.string a1, .string a2] 23)).alloc (.cells #[.string c1, .string c2] 23)) 23 [.string ⟨#[]⟩, .string ⟨#[]⟩]
      rw [World.size_alloc, World.size_alloc] at h
      exact h
  rw [← hb2, ← hb1, ← hb0]
  have HR := Lib.hid (show Row w1 b0 23 [.string a1, .string a2] ∧ Row w1 b1 23 [.string c1, .string c2] ∧ Row w1 b2 23 [.string ⟨#[]⟩, .string ⟨#[]⟩] ∧ Mach w0 k n vb nb P b off s w1 ∧ (∀ j, j < k → (vb j).1 < b0) ∧ w0.heap.size ≤ b0 ∧ b0 < b2 from ⟨R1.1, R1.2.1, R1.2.2.1, HM.out.next R1.2.2.2, fun j hj => by rw [hb0]; exact (HM.out.box j hj).lt, by rw [hb0]; exact HM.out.base.size, by omega⟩)
  have HJA := Lib.hid (show J w1 ∧ w.heap.size ≤ b2 from ⟨HJ.out.2.1 _ _ HJ0.out R1.2.2.2, by omega⟩)
  clear hw R1 hb0 hb1 hb2 HM HJ0
  have k0 := (HR.out.1.cell 0).trans (show _ = some (Value.string a1) from rfl)
  have k1 := (HR.out.1.cell 1).trans (show _ = some (Value.string a2) from rfl)
  have l0 := HR.out.1.lt
  go_wp2_with fail
  with_reducible refine Calls.mono (VA.out _ (TabI.next HT.out HR.out.2.2.2.1.base)) ?_
  rintro e w2 ⟨rfl, hb⟩
  have HJB := Lib.hid (HJ.out.2.1 _ _ HJA.out.1 hb)
  have H2 := Lib.hid (And.intro (HR.out.2.1.next hb) (And.intro (HR.out.2.2.1.next hb) (HR.out.2.2.2.1.next hb)))
  clear k0 k1 l0 hb
  cases va with
  | false =>
    have r0 := (H2.out.2.1.cell 0).trans (show _ = some (Value.string ⟨#[]⟩) from rfl)
    have r1 := (H2.out.2.1.cell 1).trans (show _ = some (Value.string ⟨#[]⟩) from rfl)
    have f0 := H2.out.2.1.frozen 0
    have f1 := H2.out.2.1.frozen 1
    have lr := H2.out.2.1.lt
    go_wp2_with fail
    have hle : w0.heap.size ≤ b2 := by have h1 := HR.out.2.2.2.2.2.1; have h2 := HR.out.2.2.2.2.2.2; omega
    refine bodyPost_ret (v := .tuple #[.agg #[.string ⟨#[]⟩, .string ⟨#[]⟩], .int .i64 40]) (by first | (simp [results, Tryz.results66, go_sem]; done) | simp [results, Tryz.results66, go_sem, *]) rfl ⟨fun h => absurd h Bool.false_ne_true, fun _ => rfl, (H2.out.2.2.base.setCell (p := ⟨b2, 0, none⟩) hle _).setCell (p := ⟨b2, 1, none⟩) hle _, HJ.out.2.2 _ _ _ _ HJA.out.2 (HJ.out.2.2 _ _ _ _ HJA.out.2 HJB.out)⟩
  | true =>
    have k0 := (H2.out.1.cell 0).trans (show _ = some (Value.string c1) from rfl)
    have k1 := (H2.out.1.cell 1).trans (show _ = some (Value.string c2) from rfl)
    have l0 := H2.out.1.lt
    go_wp2_with fail
    with_reducible refine Calls.mono (VB.out _ (TabI.next HT.out H2.out.2.2.base)) ?_
    rintro e w3 ⟨rfl, hb⟩
    have HJC := Lib.hid (HJ.out.2.1 _ _ HJB.out hb)
    have H3 := Lib.hid (And.intro (H2.out.2.1.next hb) (H2.out.2.2.next hb))
    clear k0 k1 l0 hb
    cases vc with
    | false =>
      have r0 := (H3.out.1.cell 0).trans (show _ = some (Value.string ⟨#[]⟩) from rfl)
      have r1 := (H3.out.1.cell 1).trans (show _ = some (Value.string ⟨#[]⟩) from rfl)
      have f0 := H3.out.1.frozen 0
      have f1 := H3.out.1.frozen 1
      have lr := H3.out.1.lt
      go_wp2_with fail
      have hle : w0.heap.size ≤ b2 := by have h1 := HR.out.2.2.2.2.2.1; have h2 := HR.out.2.2.2.2.2.2; omega
      refine bodyPost_ret (v := .tuple #[.agg #[.string ⟨#[]⟩, .string ⟨#[]⟩], .int .i64 40]) (by first | (simp [results, Tryz.results66, go_sem]; done) | simp [results, Tryz.results66, go_sem, *]) rfl ⟨rfl, (H3.out.2.base.setCell (p := ⟨b2, 0, none⟩) hle _).setCell (p := ⟨b2, 1, none⟩) hle _, HJ.out.2.2 _ _ _ _ HJA.out.2 (HJ.out.2.2 _ _ _ _ HJA.out.2 HJC.out)⟩
    | true =>
      have CH := Lib.hid (chain_setJ w0 k n c vb nb P b off s w3 HT.out HN.out.1 HN.out.2.1 HL.out H3.out.2 (fun W => Row W b2 23 [.string ⟨#[]⟩, .string ⟨#[]⟩] ∧ J W) ⟨H3.out.1, HJC.out⟩ (fun W wm m v hm h hb => ⟨(h.1.next hb).other (fun e => by
        have h1 := HR.out.2.2.2.2.1 _ (HL.out.idx m hm).1
        have h2 := HR.out.2.2.2.2.2.2
        omega) _ _, HJ.out.1 W wm m v hm h.2 hb⟩))
      go_wp2_with fail
      refine Calls.mono CH.out ?_
      rintro e w4 (⟨rfl, hz, hm, hr, hj⟩ | ⟨rfl, hz, hm, hr, hj⟩)
      · have HZ := Lib.hid (And.intro hz (And.intro hm hr))
        have HJD := Lib.hid hj
        obtain ⟨tx, htx⟩ : ∃ t, t = resV (Ra.makeS (sig P s n jn) (sig P s n jd)) := ⟨_, rfl⟩
        obtain ⟨q, ec, htq⟩ : ∃ (q : ByteArray × ByteArray) (ec : Int), tx = .tuple #[ratV q, .int .i64 ec] := by
          rw [htx]
          cases Ra.makeS (sig P s n jn) (sig P s n jd) with
          | none => exact ⟨(⟨#[]⟩, ⟨#[]⟩), 40, rfl⟩
          | some v => exact ⟨(In.txt v.1, In.txt v.2), 0, rfl⟩
        obtain ⟨q1, q2⟩ := q
        have CF1 : ∀ k' : Kin w4, Calls Tryz.prog 27 #[.string (sig P s n jn), .string (sig P s n jd)] k'.it fun e w' => e = .returned (.tuple #[ratV (q1, q2), .int .i64 ec]) ∧ Below k'.it.heap.size k'.it w' := fun k' => by
          rw [← htq, htx]
          exact Make_r _ _ _ (HT.out.next (Below.andThen HZ.out.2.1.base k'.below))
        have D0 := Lib.hid CF1
        have HTX := Lib.hid (htx.symm.trans htq)
        have B0 := HZ.out.2.1.box jn HN.out.2.2.1
        have B1 := HZ.out.2.1.box jd HN.out.2.2.2
        obtain ⟨g0, g1⟩ : (vb jn).1 < w4.heap.size ∧ (vb jd).1 < w4.heap.size := ⟨B0.lt, B1.lt⟩
        have g2 := HZ.out.2.2.lt
        have c0 : w4.cell? ⟨(vb jn).1, (vb jn).2, none⟩ = some (.string (sig P s n jn)) := B0.cell
        have c1' : w4.cell? ⟨(vb jd).1, (vb jd).2, none⟩ = some (.string (sig P s n jd)) := B1.cell
        clear hz hm hr hj htx htq CF1 B0 B1
        obtain ⟨sn, hsn⟩ : ∃ x, x = sig P s n jn := ⟨_, rfl⟩
        obtain ⟨sd, hsd⟩ : ∃ x, x = sig P s n jd := ⟨_, rfl⟩
        rw [← hsn, ← hsd] at D0
        rw [← hsn] at c0
        rw [← hsd] at c1'
        rw [← hsn, ← hsd] at HTX
        have HSN := Lib.hid (And.intro hsn hsd)
        clear hsn hsd
        go_upto_region 3 with (fail)
        refine wp_region_late_tail 8 [9] 9 (by kernel_rfl) (by kernel_rfl) (fun dst _ _ _ _ h => by cases dst <;> exact h) (by kernel_rfl) w4.heap.size 0 (by simp) (fun hk => ?_)
        simp only [List.take_succ_cons, List.take_zero, List.drop_succ_cons, List.drop_zero]
        repeat (go_big_quiet_step (first | (go_at_call 27; with_reducible exact Calls.kin (D0.out _))))
        refine wpQuiet_nil ?_
        clear hk
        intro W2 hb
        have HJE := Lib.hid (HJ.out.2.1 _ _ HJD.out hb)
        have HB := Lib.hid (And.intro (HZ.out.2.1.next hb) (HZ.out.2.2.next hb))
        have r0 := (HB.out.2.cell 0).trans (show _ = some (Value.string ⟨#[]⟩) from rfl)
        have r1 := (HB.out.2.cell 1).trans (show _ = some (Value.string ⟨#[]⟩) from rfl)
        have f0 := HB.out.2.frozen 0
        have f1 := HB.out.2.frozen 1
        have lr := HB.out.2.lt
        clear hb c0 c1' g0 g1 g2
        go_wp2_with fail
        have hle : w0.heap.size ≤ b2 := by have h1 := HR.out.2.2.2.2.2.1; have h2 := HR.out.2.2.2.2.2.2; omega
        refine bodyPost_ret (v := .tuple #[ratV (q1, q2), .int .i64 ec]) (by first | (simp [results, Tryz.results66, go_sem]; done) | simp [results, Tryz.results66, go_sem, *]) rfl ⟨fun _ => by rw [← HSN.out.1, ← HSN.out.2, HTX.out], fun m h1 h2 => absurd (HZ.out.1 m h1) h2, (HB.out.1.base.setCell (p := ⟨b2, 0, none⟩) hle _).setCell (p := ⟨b2, 1, none⟩) hle _, HJ.out.2.2 _ _ _ _ HJA.out.2 (HJ.out.2.2 _ _ _ _ HJA.out.2 HJE.out)⟩
      · have HZ := Lib.hid (And.intro hz (And.intro hm hr))
        have HJD := Lib.hid hj
        have r0 := (hr.cell 0).trans (show _ = some (Value.string ⟨#[]⟩) from rfl)
        have r1 := (hr.cell 1).trans (show _ = some (Value.string ⟨#[]⟩) from rfl)
        have f0 := hr.frozen 0
        have f1 := hr.frozen 1
        have lr := hr.lt
        clear hz hm hr hj
        go_wp2_with fail
        have hle : w0.heap.size ≤ b2 := by have h1 := HR.out.2.2.2.2.2.1; have h2 := HR.out.2.2.2.2.2.2; omega
        refine bodyPost_ret (v := .tuple #[.agg #[.string ⟨#[]⟩, .string ⟨#[]⟩], .int .i64 40]) (by first | (simp [results, Tryz.results66, go_sem]; done) | simp [results, Tryz.results66, go_sem, *]) rfl ⟨fun h => (HZ.out.1.elim fun m hm => absurd (h m hm.1) hm.2), fun _ _ _ => rfl, (HZ.out.2.1.setCell (p := ⟨b2, 0, none⟩) hle _).setCell (p := ⟨b2, 1, none⟩) hle _, HJ.out.2.2 _ _ _ _ HJA.out.2 (HJ.out.2.2 _ _ _ _ HJA.out.2 HJD.out)⟩
end Go.Proofs.YtlehjmanlccncaaGreatDoor
set_option linter.unusedVariables false
set_option linter.unusedSimpArgs false
namespace Go.Proofs.YtlehjmanlccncaaGreatDoor
open Go.RowKit

theorem finish_is (w0 : World) (k n c : Nat) (vb : Nat → Nat × Nat) (nb : Nat → Nat) (P : Nat → Ins) (b off : Nat) (s : Nat → ByteArray) (w : World) (T : TabI w0) (hn : n ≤ 10) (hc : n ≤ c) (L : Lay w0 k n vb nb P b) (h : Mach w0 k n vb nb P b off s w)
    (ra rb : ByteArray × ByteArray) (jn jd : Nat) (hjn : jn < k) (hjd : jd < k)
    (J : World → Prop) (hJ0 : J w) (hJ1 : ∀ W wm m v, m < n → J W → Below W.heap.size W wm → J (wm.setCell ⟨(vb (P m).t).1, (vb (P m).t).2, none⟩ v)) (hJ2 : ∀ W wm, J W → Below W.heap.size W wm → J wm) (hJ3 : ∀ W b o v, w.heap.size ≤ b → J W → J (W.setCell ⟨b, o, none⟩ v))
    (R : Option (Int × Int))
    (h1 : (Ra.val ra).isSome = true → (Ra.val rb).isSome = true → (∀ m, m < n → er P s m = 0) → Ra.makeS (sig P s n jn) (sig P s n jd) = R)
    (h2 : ¬ ((Ra.val ra).isSome = true ∧ (Ra.val rb).isSome = true ∧ ∀ m, m < n → er P s m = 0) → R = none) :
    Calls Tryz.prog 66 #[ratV ra, ratV rb, ptrA (vb jn), ptrA (vb jd), .slice (some ⟨b, off, none⟩) n c] w fun e w' => e = .returned (resV R) ∧ Below w0.heap.size w0 w' ∧ J w' := by
  refine (finish_any w0 k n c vb nb P b off s w T hn hc L h ra rb jn jd hjn hjd J hJ0 hJ1 hJ2 hJ3).mono ?_
  rintro e w' ⟨g1, g2, g3⟩
  refine ⟨?_, g3⟩
  by_cases hh : (Ra.val ra).isSome = true ∧ (Ra.val rb).isSome = true ∧ ∀ m, m < n → er P s m = 0
  · rw [← h1 hh.1 hh.2.1 hh.2.2]
    exact g1 hh.1 hh.2.1 hh.2.2
  · rw [h2 hh]
    exact g2 hh
/-- the numbers a1 / a2 and c1 / c2, and four variables -/
def s8 (a1 a2 c1 c2 : ByteArray) : Nat → ByteArray
  | 0 => a1
  | 1 => a2
  | 2 => c1
  | 3 => c2
  | _ => ⟨#[]⟩
/-- left, right, n, d: 4, 5, 6, 7 -/
def PC (o : Op5) : Nat → Ins
  | 0 => ⟨.mul, 4, 0, 3⟩
  | 1 => ⟨.mul, 5, 2, 1⟩
  | 2 => ⟨o, 6, 4, 5⟩
  | _ => ⟨.mul, 7, 1, 3⟩
/-- n, d: 4, 5 -/
def PM : Nat → Ins
  | 0 => ⟨.mul, 4, 0, 2⟩
  | _ => ⟨.mul, 5, 1, 3⟩
def PD : Nat → Ins
  | 0 => ⟨.mul, 4, 0, 3⟩
  | _ => ⟨.mul, 5, 1, 2⟩
abbrev mulT (s t : ByteArray) : ByteArray × Int := In.opS (fun x y => x * y) s t
theorem fit_err {z : Int} : (In.fit z).2 = 0 ↔ In.Fit z := by
  by_cases h : In.Fit z
  · rw [In.fit_pos h]; exact ⟨fun _ => h, fun _ => rfl⟩
  · rw [In.fit_neg h]; exact ⟨fun h2 => absurd h2 (by decide), fun h2 => absurd h2 h⟩
theorem fit_txt {z : Int} (h : In.Fit z) : (In.fit z).1 = In.txt z := by rw [In.fit_pos h]
theorem makeS_fit {n d : Int} (hn : In.Fit n) (hd : In.Fit d) : Ra.makeS (In.txt n) (In.txt d) = Ra.redO True n d := by
  unfold Ra.makeS
  rw [In.num_fit hn, In.num_fit hd]
theorem redO_true {fits : Prop} [Decidable fits] (h : fits) (n d : Int) : Ra.redO True n d = Ra.redO fits n d := by
  unfold Ra.redO
  by_cases h0 : d ≠ 0
  · rw [if_pos ⟨trivial, h0⟩, if_pos ⟨h, h0⟩]
  · rw [if_neg (fun k => h0 k.2), if_neg (fun k => h0 k.2)]
theorem redO_none {fits : Prop} [Decidable fits] (h : ¬ fits) (n d : Int) : Ra.redO fits n d = none := if_neg (fun k => h k.1)
theorem isSome_none' {α : Type} (h : (none : Option α).isSome = true) (C : Prop) : C := by cases h
theorem comb_add (a1 a2 c1 c2 : ByteArray) :
    ((Ra.val (a1, a2)).isSome = true → (Ra.val (c1, c2)).isSome = true → (∀ m, m < 4 → er (PC .add) (s8 a1 a2 c1 c2) m = 0) → Ra.makeS (sig (PC .add) (s8 a1 a2 c1 c2) 4 6) (sig (PC .add) (s8 a1 a2 c1 c2) 4 7) = Ra.addO (Ra.val (a1, a2)) (Ra.val (c1, c2))) ∧
    (¬ ((Ra.val (a1, a2)).isSome = true ∧ (Ra.val (c1, c2)).isSome = true ∧ ∀ m, m < 4 → er (PC .add) (s8 a1 a2 c1 c2) m = 0) → Ra.addO (Ra.val (a1, a2)) (Ra.val (c1, c2)) = none) := by
  cases hp : Ra.val (a1, a2) with
  | none => exact ⟨fun h => isSome_none' h _, fun _ => rfl⟩
  | some p =>
    cases hq : Ra.val (c1, c2) with
    | none => exact ⟨fun _ h => isSome_none' h _, fun _ => rfl⟩
    | some q =>
      obtain ⟨_, _, n1, d1⟩ := Ra.val_some hp
      obtain ⟨_, _, n2, d2⟩ := Ra.val_some hq
      have e0 : er (PC .add) (s8 a1 a2 c1 c2) 0 = (mulT a1 c2).2 := rfl
      have e1 : er (PC .add) (s8 a1 a2 c1 c2) 1 = (mulT c1 a2).2 := rfl
      have e2 : er (PC .add) (s8 a1 a2 c1 c2) 2 = (In.opS (fun x y => x + y) (mulT a1 c2).1 (mulT c1 a2).1).2 := rfl
      have e3 : er (PC .add) (s8 a1 a2 c1 c2) 3 = (mulT a2 c2).2 := rfl
      have g6 : sig (PC .add) (s8 a1 a2 c1 c2) 4 6 = (In.opS (fun x y => x + y) (mulT a1 c2).1 (mulT c1 a2).1).1 := rfl
      have g7 : sig (PC .add) (s8 a1 a2 c1 c2) 4 7 = (mulT a2 c2).1 := rfl
      have m0 : mulT a1 c2 = In.fit (p.1 * q.2) := In.opS_some n1 d2
      have m1 : mulT c1 a2 = In.fit (q.1 * p.2) := In.opS_some n2 d1
      have m3 : mulT a2 c2 = In.fit (p.2 * q.2) := In.opS_some d1 d2
      rw [m0] at e0
      rw [m1] at e1
      rw [m3] at e3 g7
      rw [m0, m1] at e2 g6
      refine ⟨fun _ _ h => ?_, fun h => ?_⟩
      · have f0 := fit_err.1 (e0.symm.trans (h 0 (by decide)))
        have f1 := fit_err.1 (e1.symm.trans (h 1 (by decide)))
        have f3 := fit_err.1 (e3.symm.trans (h 3 (by decide)))
        rw [fit_txt f0, fit_txt f1, In.opS_some (In.num_fit f0) (In.num_fit f1)] at e2 g6
        have f2 := fit_err.1 (e2.symm.trans (h 2 (by decide)))
        rw [fit_txt f2] at g6
        rw [fit_txt f3] at g7
        rw [g6, g7, makeS_fit f2 f3]
        exact redO_true ⟨f0, f1, f2, f3⟩ _ _
      · refine redO_none (fun ⟨f0, f1, f2, f3⟩ => h ⟨rfl, rfl, fun m hm => ?_⟩) _ _
        rw [fit_txt f0, fit_txt f1, In.opS_some (In.num_fit f0) (In.num_fit f1)] at e2
        rcases four_cases hm with rfl | rfl | rfl | rfl
        · exact e0.trans (fit_err.2 f0)
        · exact e1.trans (fit_err.2 f1)
        · exact e2.trans (fit_err.2 f2)
        · exact e3.trans (fit_err.2 f3)
theorem comb_sub (a1 a2 c1 c2 : ByteArray) :
    ((Ra.val (a1, a2)).isSome = true → (Ra.val (c1, c2)).isSome = true → (∀ m, m < 4 → er (PC .sub) (s8 a1 a2 c1 c2) m = 0) → Ra.makeS (sig (PC .sub) (s8 a1 a2 c1 c2) 4 6) (sig (PC .sub) (s8 a1 a2 c1 c2) 4 7) = Ra.subO (Ra.val (a1, a2)) (Ra.val (c1, c2))) ∧
    (¬ ((Ra.val (a1, a2)).isSome = true ∧ (Ra.val (c1, c2)).isSome = true ∧ ∀ m, m < 4 → er (PC .sub) (s8 a1 a2 c1 c2) m = 0) → Ra.subO (Ra.val (a1, a2)) (Ra.val (c1, c2)) = none) := by
  cases hp : Ra.val (a1, a2) with
  | none => exact ⟨fun h => isSome_none' h _, fun _ => rfl⟩
  | some p =>
    cases hq : Ra.val (c1, c2) with
    | none => exact ⟨fun _ h => isSome_none' h _, fun _ => rfl⟩
    | some q =>
      obtain ⟨_, _, n1, d1⟩ := Ra.val_some hp
      obtain ⟨_, _, n2, d2⟩ := Ra.val_some hq
      have e0 : er (PC .sub) (s8 a1 a2 c1 c2) 0 = (mulT a1 c2).2 := rfl
      have e1 : er (PC .sub) (s8 a1 a2 c1 c2) 1 = (mulT c1 a2).2 := rfl
      have e2 : er (PC .sub) (s8 a1 a2 c1 c2) 2 = (In.opS (fun x y => x - y) (mulT a1 c2).1 (mulT c1 a2).1).2 := rfl
      have e3 : er (PC .sub) (s8 a1 a2 c1 c2) 3 = (mulT a2 c2).2 := rfl
      have g6 : sig (PC .sub) (s8 a1 a2 c1 c2) 4 6 = (In.opS (fun x y => x - y) (mulT a1 c2).1 (mulT c1 a2).1).1 := rfl
      have g7 : sig (PC .sub) (s8 a1 a2 c1 c2) 4 7 = (mulT a2 c2).1 := rfl
      have m0 : mulT a1 c2 = In.fit (p.1 * q.2) := In.opS_some n1 d2
      have m1 : mulT c1 a2 = In.fit (q.1 * p.2) := In.opS_some n2 d1
      have m3 : mulT a2 c2 = In.fit (p.2 * q.2) := In.opS_some d1 d2
      rw [m0] at e0
      rw [m1] at e1
      rw [m3] at e3 g7
      rw [m0, m1] at e2 g6
      refine ⟨fun _ _ h => ?_, fun h => ?_⟩
      · have f0 := fit_err.1 (e0.symm.trans (h 0 (by decide)))
        have f1 := fit_err.1 (e1.symm.trans (h 1 (by decide)))
        have f3 := fit_err.1 (e3.symm.trans (h 3 (by decide)))
        rw [fit_txt f0, fit_txt f1, In.opS_some (In.num_fit f0) (In.num_fit f1)] at e2 g6
        have f2 := fit_err.1 (e2.symm.trans (h 2 (by decide)))
        rw [fit_txt f2] at g6
        rw [fit_txt f3] at g7
        rw [g6, g7, makeS_fit f2 f3]
        exact redO_true ⟨f0, f1, f2, f3⟩ _ _
      · refine redO_none (fun ⟨f0, f1, f2, f3⟩ => h ⟨rfl, rfl, fun m hm => ?_⟩) _ _
        rw [fit_txt f0, fit_txt f1, In.opS_some (In.num_fit f0) (In.num_fit f1)] at e2
        rcases four_cases hm with rfl | rfl | rfl | rfl
        · exact e0.trans (fit_err.2 f0)
        · exact e1.trans (fit_err.2 f1)
        · exact e2.trans (fit_err.2 f2)
        · exact e3.trans (fit_err.2 f3)
theorem two_cases {i : Nat} (h : i < 2) : i = 0 ∨ i = 1 := by omega
theorem comb_PM (a1 a2 c1 c2 : ByteArray) :
    ((Ra.val (a1, a2)).isSome = true → (Ra.val (c1, c2)).isSome = true → (∀ m, m < 2 → er PM (s8 a1 a2 c1 c2) m = 0) → Ra.makeS (sig PM (s8 a1 a2 c1 c2) 2 4) (sig PM (s8 a1 a2 c1 c2) 2 5) = Ra.mulO (Ra.val (a1, a2)) (Ra.val (c1, c2))) ∧
    (¬ ((Ra.val (a1, a2)).isSome = true ∧ (Ra.val (c1, c2)).isSome = true ∧ ∀ m, m < 2 → er PM (s8 a1 a2 c1 c2) m = 0) → Ra.mulO (Ra.val (a1, a2)) (Ra.val (c1, c2)) = none) := by
  cases hp : Ra.val (a1, a2) with
  | none => exact ⟨fun h => isSome_none' h _, fun _ => rfl⟩
  | some p =>
    cases hq : Ra.val (c1, c2) with
    | none => exact ⟨fun _ h => isSome_none' h _, fun _ => rfl⟩
    | some q =>
      obtain ⟨_, _, n1, d1⟩ := Ra.val_some hp
      obtain ⟨_, _, n2, d2⟩ := Ra.val_some hq
      have e0 : er PM (s8 a1 a2 c1 c2) 0 = (mulT a1 c1).2 := rfl
      have e1 : er PM (s8 a1 a2 c1 c2) 1 = (mulT a2 c2).2 := rfl
      have g4 : sig PM (s8 a1 a2 c1 c2) 2 4 = (mulT a1 c1).1 := rfl
      have g5 : sig PM (s8 a1 a2 c1 c2) 2 5 = (mulT a2 c2).1 := rfl
      have m0 := In.opS_some (f := fun x y => x * y) n1 n2
      have m1 := In.opS_some (f := fun x y => x * y) d1 d2
      rw [show mulT a1 c1 = _ from m0] at e0 g4
      rw [show mulT a2 c2 = _ from m1] at e1 g5
      refine ⟨fun _ _ h => ?_, fun h => ?_⟩
      · have f0 := fit_err.1 (e0.symm.trans (h 0 (by decide)))
        have f1 := fit_err.1 (e1.symm.trans (h 1 (by decide)))
        rw [fit_txt f0] at g4
        rw [fit_txt f1] at g5
        rw [g4, g5, makeS_fit f0 f1]
        exact redO_true ⟨f0, f1⟩ _ _
      · refine redO_none (fun ⟨f0, f1⟩ => h ⟨rfl, rfl, fun m hm => ?_⟩) _ _
        rcases two_cases hm with rfl | rfl
        · exact e0.trans (fit_err.2 f0)
        · exact e1.trans (fit_err.2 f1)
theorem comb_PD (a1 a2 c1 c2 : ByteArray) :
    ((Ra.val (a1, a2)).isSome = true → (Ra.val (c1, c2)).isSome = true → (∀ m, m < 2 → er PD (s8 a1 a2 c1 c2) m = 0) → Ra.makeS (sig PD (s8 a1 a2 c1 c2) 2 4) (sig PD (s8 a1 a2 c1 c2) 2 5) = Ra.divO (Ra.val (a1, a2)) (Ra.val (c1, c2))) ∧
    (¬ ((Ra.val (a1, a2)).isSome = true ∧ (Ra.val (c1, c2)).isSome = true ∧ ∀ m, m < 2 → er PD (s8 a1 a2 c1 c2) m = 0) → Ra.divO (Ra.val (a1, a2)) (Ra.val (c1, c2)) = none) := by
  cases hp : Ra.val (a1, a2) with
  | none => exact ⟨fun h => isSome_none' h _, fun _ => rfl⟩
  | some p =>
    cases hq : Ra.val (c1, c2) with
    | none => exact ⟨fun _ h => isSome_none' h _, fun _ => rfl⟩
    | some q =>
      obtain ⟨_, _, n1, d1⟩ := Ra.val_some hp
      obtain ⟨_, _, n2, d2⟩ := Ra.val_some hq
      have e0 : er PD (s8 a1 a2 c1 c2) 0 = (mulT a1 c2).2 := rfl
      have e1 : er PD (s8 a1 a2 c1 c2) 1 = (mulT a2 c1).2 := rfl
      have g4 : sig PD (s8 a1 a2 c1 c2) 2 4 = (mulT a1 c2).1 := rfl
      have g5 : sig PD (s8 a1 a2 c1 c2) 2 5 = (mulT a2 c1).1 := rfl
      have m0 := In.opS_some (f := fun x y => x * y) n1 d2
      have m1 := In.opS_some (f := fun x y => x * y) d1 n2
      rw [show mulT a1 c2 = _ from m0] at e0 g4
      rw [show mulT a2 c1 = _ from m1] at e1 g5
      refine ⟨fun _ _ h => ?_, fun h => ?_⟩
      · have f0 := fit_err.1 (e0.symm.trans (h 0 (by decide)))
        have f1 := fit_err.1 (e1.symm.trans (h 1 (by decide)))
        rw [fit_txt f0] at g4
        rw [fit_txt f1] at g5
        rw [g4, g5, makeS_fit f0 f1]
        exact redO_true ⟨f0, f1⟩ _ _
      · refine redO_none (fun ⟨f0, f1⟩ => h ⟨rfl, rfl, fun m hm => ?_⟩) _ _
        rcases two_cases hm with rfl | rfl
        · exact e0.trans (fit_err.2 f0)
        · exact e1.trans (fit_err.2 f1)
end Go.Proofs.YtlehjmanlccncaaGreatDoor
set_option linter.unusedVariables false
set_option linter.unusedSimpArgs false
namespace Go.Proofs.YtlehjmanlccncaaGreatDoor
open Go.RowKit

theorem below_new {w w' : World} (h : Below w.heap.size w w') (o : Obj) : Below w.heap.size w (w'.alloc o) := h.alloc h.size o
/-- where the variables lie -/
def v8 (b0 b1 b3 b4 b5 b6 : Nat) : Nat → Nat × Nat
  | 0 => (b0, 0)
  | 1 => (b0, 1)
  | 2 => (b1, 0)
  | 3 => (b1, 1)
  | 4 => (b3, 0)
  | 5 => (b4, 0)
  | 6 => (b5, 0)
  | _ => (b6, 0)
theorem eight_cases {i : Nat} (h : i < 8) : i = 0 ∨ i = 1 ∨ i = 2 ∨ i = 3 ∨ i = 4 ∨ i = 5 ∨ i = 6 ∨ i = 7 := by omega
theorem lay_comb (o : Op5) {w0 : World} {b0 b1 b3 b4 b5 b6 m1 m2 m3 m4 b : Nat} (hb : b1 = b0 + 1 ∧ b3 = b0 + 3 ∧ b4 = b0 + 4 ∧ b5 = b0 + 5 ∧ b6 = b0 + 6 ∧ w0.heap.size ≤ b0) (h1 : b6 < m1) (h2 : b6 < m2) (h3 : b6 < m3) (h4 : b6 < m4) (h5 : b6 < b) :
    Lay w0 8 4 (v8 b0 b1 b3 b4 b5 b6) (n5 m1 m2 m3 m4 0) (PC o) b := by
  obtain ⟨e1, e3, e4, e5, e6, e0⟩ := hb
  refine ⟨fun i j hi hj h => ?_, fun j hj => ?_, fun m j hm hj => ?_, fun m hm => ?_, fun j hj => ?_⟩
  · rcases eight_cases hi with rfl | rfl | rfl | rfl | rfl | rfl | rfl | rfl <;> rcases eight_cases hj with rfl | rfl | rfl | rfl | rfl | rfl | rfl | rfl <;> simp only [v8, Prod.mk.injEq] at h <;> omega
  · rcases eight_cases hj with rfl | rfl | rfl | rfl | rfl | rfl | rfl | rfl <;> simp only [v8] <;> omega
  · rcases four_cases hm with rfl | rfl | rfl | rfl <;> rcases eight_cases hj with rfl | rfl | rfl | rfl | rfl | rfl | rfl | rfl <;> simp only [v8, n5] <;> omega
  · rcases four_cases hm with rfl | rfl | rfl | rfl
    · exact ⟨show 4 < 8 by decide, show 0 < 8 by decide, show 3 < 8 by decide⟩
    · exact ⟨show 5 < 8 by decide, show 2 < 8 by decide, show 1 < 8 by decide⟩
    · exact ⟨show 6 < 8 by decide, show 4 < 8 by decide, show 5 < 8 by decide⟩
    · exact ⟨show 7 < 8 by decide, show 1 < 8 by decide, show 3 < 8 by decide⟩
  · rcases eight_cases hj with rfl | rfl | rfl | rfl | rfl | rfl | rfl | rfl <;> simp only [v8] <;> omega
theorem mach_add {w0 w : World} {b0 b1 b3 b4 b5 b6 m1 m2 m3 m4 b : Nat} {a1 a2 c1 c2 : ByteArray} (hb : Below w0.heap.size w0 w) (r0 : Row w b0 23 [.string a1, .string a2]) (r1 : Row w b1 23 [.string c1, .string c2]) (r3 : Box w b3 ⟨#[]⟩) (r4 : Box w b4 ⟨#[]⟩) (r5 : Box w b5 ⟨#[]⟩) (r6 : Box w b6 ⟨#[]⟩)
    (t1 : Step w 68 m1 (b3, 0) (b0, 0) (b1, 1)) (t2 : Step w 68 m2 (b4, 0) (b1, 0) (b0, 1)) (t3 : Step w 65 m3 (b5, 0) (b3, 0) (b4, 0)) (t4 : Step w 68 m4 (b6, 0) (b0, 1) (b1, 1)) (hs : Row w b 80 [stepV m1, stepV m2, stepV m3, stepV m4]) :
    Mach w0 8 4 (v8 b0 b1 b3 b4 b5 b6) (n5 m1 m2 m3 m4 0) (PC .add) b 0 (s8 a1 a2 c1 c2) w := by
  refine ⟨hb, fun j hj => ?_, fun m hm => ?_, fun m hm => ?_, hs.lt⟩
  · rcases eight_cases hj with rfl | rfl | rfl | rfl | rfl | rfl | rfl | rfl
    · exact Var.of r0 rfl
    · exact Var.of r0 rfl
    · exact Var.of r1 rfl
    · exact Var.of r1 rfl
    · exact Var.of r3 rfl
    · exact Var.of r4 rfl
    · exact Var.of r5 rfl
    · exact Var.of r6 rfl
  · rcases four_cases hm with rfl | rfl | rfl | rfl
    · exact t1
    · exact t2
    · exact t3
    · exact t4
  · rw [Nat.zero_add, hs.cell]
    rcases four_cases hm with rfl | rfl | rfl | rfl <;> rfl
theorem comb_end_add (w w1 x1 x2 x3 x4 : World) {b0 b1 b2 b3 b4 b5 b6 : Nat} (a1 a2 c1 c2 : ByteArray) (T : TabI w)
    (R : Row w1 b0 23 [.string a1, .string a2] ∧ Row w1 b1 23 [.string c1, .string c2] ∧ Row w1 b2 23 [.string ⟨#[]⟩, .string ⟨#[]⟩] ∧ Box w1 b3 ⟨#[]⟩ ∧ Box w1 b4 ⟨#[]⟩ ∧ Box w1 b5 ⟨#[]⟩ ∧ Box w1 b6 ⟨#[]⟩ ∧ Below w.heap.size w w1 ∧ w1.heap.size = b6 + 1)
    (E : b1 = b0 + 1 ∧ b2 = b0 + 2 ∧ b3 = b0 + 3 ∧ b4 = b0 + 4 ∧ b5 = b0 + 5 ∧ b6 = b0 + 6 ∧ b0 = w.heap.size)
    (t1 : Step x1 68 w1.heap.size (b3, 0) (b0, 0) (b1, 1)) (g1 : Below w1.heap.size w1 x1)
    (t2 : Step x2 68 x1.heap.size (b4, 0) (b1, 0) (b0, 1)) (g2 : Below x1.heap.size x1 x2)
    (t3 : Step x3 65 x2.heap.size (b5, 0) (b3, 0) (b4, 0)) (g3 : Below x2.heap.size x2 x3)
    (t4 : Step x4 68 x3.heap.size (b6, 0) (b0, 1) (b1, 1)) (g4 : Below x3.heap.size x3 x4) :
    Calls Tryz.prog 66 #[ratV (a1, a2), ratV (c1, c2), ptrA (b5, 0), ptrA (b6, 0), .slice (some ⟨x4.heap.size, 0, none⟩) 4 4] (x4.alloc (.cells #[stepV w1.heap.size, stepV x1.heap.size, stepV x2.heap.size, stepV x3.heap.size] 80)) fun e w' =>
      e = .returned (resV (Ra.addO (Ra.val (a1, a2)) (Ra.val (c1, c2)))) ∧ Below w.heap.size w w' ∧ Row w' b0 23 [.string a1, .string a2] ∧ Row w' b1 23 [.string c1, .string c2] ∧ Row w' b2 23 [.string ⟨#[]⟩, .string ⟨#[]⟩] := by
  obtain ⟨q0, q1, q2, q3, q4, q5, q6, q7, q8⟩ := R
  have g5 : Below x4.heap.size x4 (x4.alloc (.cells #[stepV w1.heap.size, stepV x1.heap.size, stepV x2.heap.size, stepV x3.heap.size] 80)) := below_new (Below.refl _ _) _
  have hs : Row (x4.alloc (.cells #[stepV w1.heap.size, stepV x1.heap.size, stepV x2.heap.size, stepV x3.heap.size] 80)) x4.heap.size 80 [stepV w1.heap.size, stepV x1.heap.size, stepV x2.heap.size, stepV x3.heap.size] := Row.new _ _ _
  generalize x4.alloc (.cells #[stepV w1.heap.size, stepV x1.heap.size, stepV x2.heap.size, stepV x3.heap.size] 80) = ws at *
  have h4 := Below.andThen g4 g5
  have h3 := Below.andThen g3 h4
  have h2 := Below.andThen g2 h3
  have h1 := Below.andThen g1 h2
  have z1 := g1.size
  have z2 := g2.size
  have z3 := g3.size
  have z4 := g4.size
  have zs := hs.lt
  refine (finish_is w 8 4 4 _ _ _ x4.heap.size 0 _ ws T (by decide) (Nat.le_refl _) (lay_comb .add (b0 := b0) (b1 := b1) (b3 := b3) (b4 := b4) (b5 := b5) (b6 := b6) (m1 := w1.heap.size) (m2 := x1.heap.size) (m3 := x2.heap.size) (m4 := x3.heap.size) ⟨by omega, by omega, by omega, by omega, by omega, by omega⟩ (by omega) (by omega) (by omega) (by omega) (by omega))
    (mach_add (Below.andThen q7 h1) (q0.next h1) (q1.next h1) (q3.next h1) (q4.next h1) (q5.next h1) (q6.next h1) (t1.next h2) (t2.next h3) (t3.next h4) (t4.next g5) hs) (a1, a2) (c1, c2) 6 7 (by decide) (by decide)
    (fun W => Row W b0 23 [.string a1, .string a2] ∧ Row W b1 23 [.string c1, .string c2] ∧ Row W b2 23 [.string ⟨#[]⟩, .string ⟨#[]⟩]) ⟨q0.next h1, q1.next h1, q2.next h1⟩ ?_ ?_ ?_ _ (comb_add a1 a2 c1 c2).1 (comb_add a1 a2 c1 c2).2).mono (fun _ _ h => h)
  · rintro W wm m v hm ⟨r0, r1, r2⟩ hb
    rcases four_cases hm with rfl | rfl | rfl | rfl
    · exact ⟨(r0.next hb).other (show b0 ≠ b3 by omega) _ _, (r1.next hb).other (show b1 ≠ b3 by omega) _ _, (r2.next hb).other (show b2 ≠ b3 by omega) _ _⟩
    · exact ⟨(r0.next hb).other (show b0 ≠ b4 by omega) _ _, (r1.next hb).other (show b1 ≠ b4 by omega) _ _, (r2.next hb).other (show b2 ≠ b4 by omega) _ _⟩
    · exact ⟨(r0.next hb).other (show b0 ≠ b5 by omega) _ _, (r1.next hb).other (show b1 ≠ b5 by omega) _ _, (r2.next hb).other (show b2 ≠ b5 by omega) _ _⟩
    · exact ⟨(r0.next hb).other (show b0 ≠ b6 by omega) _ _, (r1.next hb).other (show b1 ≠ b6 by omega) _ _, (r2.next hb).other (show b2 ≠ b6 by omega) _ _⟩
  · rintro W wm ⟨r0, r1, r2⟩ hb
    exact ⟨r0.next hb, r1.next hb, r2.next hb⟩
  · rintro W b o v hb ⟨r0, r1, r2⟩
    exact ⟨r0.other (by omega) _ _, r1.other (by omega) _ _, r2.other (by omega) _ _⟩
set_option maxRecDepth 100000 in
set_option maxHeartbeats 8000000 in
theorem combine_add (ra rb : ByteArray × ByteArray) (w : World) (T : TabI w) :
    Calls Tryz.prog 64 #[ratV ra, ratV rb, .func (.func 65) #[] #[]] w fun e w' => e = .returned (resV (Ra.addO (Ra.val ra) (Ra.val rb))) ∧ Below w.heap.size w w' := by
  obtain ⟨a1, a2⟩ := ra
  obtain ⟨c1, c2⟩ := rb
  have HT := Lib.hid T
  have HC := Lib.hid (comb_add a1 a2 c1 c2)
  obtain ⟨q1, q2, ec, htq⟩ : ∃ (q1 q2 : ByteArray) (ec : Int), resV (Ra.addO (Ra.val (a1, a2)) (Ra.val (c1, c2))) = .tuple #[ratV (q1, q2), .int .i64 ec] := by
    cases Ra.addO (Ra.val (a1, a2)) (Ra.val (c1, c2)) with
    | none => exact ⟨⟨#[]⟩, ⟨#[]⟩, 40, rfl⟩
    | some v => exact ⟨In.txt v.1, In.txt v.2, 0, rfl⟩
  rw [htq]
  have HQ := Lib.hid htq
  clear T htq
  go_enter Tryz.func64, Tryz.ntmps64
  go_upto_region 2 with (fail)
  refine wp_named fun w1 hw => ?_
  obtain ⟨b0, hb0⟩ : ∃ x, x = w.heap.size := ⟨_, rfl⟩
  obtain ⟨b1, hb1⟩ : ∃ x, x = w.heap.size + 1 := ⟨_, rfl⟩
  obtain ⟨b2, hb2⟩ : ∃ x, x = w.heap.size + 1 + 1 := ⟨_, rfl⟩
  obtain ⟨b3, hb3⟩ : ∃ x, x = w.heap.size + 1 + 1 + 1 := ⟨_, rfl⟩
  obtain ⟨b4, hb4⟩ : ∃ x, x = w.heap.size + 1 + 1 + 1 + 1 := ⟨_, rfl⟩
  obtain ⟨b5, hb5⟩ : ∃ x, x = w.heap.size + 1 + 1 + 1 + 1 + 1 := ⟨_, rfl⟩
  obtain ⟨b6, hb6⟩ : ∃ x, x = w.heap.size + 1 + 1 + 1 + 1 + 1 + 1 := ⟨_, rfl⟩
  have R1 : Row w1 b0 23 [.string a1, .string a2] ∧ Row w1 b1 23 [.string c1, .string c2] ∧ Row w1 b2 23 [.string ⟨#[]⟩, .string ⟨#[]⟩] ∧ Box w1 b3 ⟨#[]⟩ ∧ Box w1 b4 ⟨#[]⟩ ∧ Box w1 b5 ⟨#[]⟩ ∧ Box w1 b6 ⟨#[]⟩ ∧ Below w.heap.size w w1 ∧ w1.heap.size = b6 + 1 := by
    rw [hw, hb0, hb1, hb2, hb3, hb4, hb5, hb6]
    generalize hA0 : w.alloc (.cells #[.string a1, .string a2] 23) = A0
    have z0 : A0.heap.size = w.heap.size + 1 := by rw [← hA0]; simp
    have n0 : Row A0 w.heap.size 23 [.string a1, .string a2] := by rw [← hA0]; exact Row.new _ _ _
    have p0 : Below w.heap.size w A0 := by rw [← hA0]; exact (Below.refl _ _).alloc (Nat.le_refl _) _
    generalize hA1 : A0.alloc (.cells #[.string c1, .string c2] 23) = A1
    have z1 : A1.heap.size = w.heap.size + 1 + 1 := by rw [← hA1]; simp [z0]
    have n1 : Row A1 (w.heap.size + 1) 23 [.string c1, .string c2] := by rw [← z0, ← hA1]; exact Row.new _ _ _
    have p1 : Below A0.heap.size A0 A1 := by rw [← hA1]; exact (Below.refl _ _).alloc (Nat.le_refl _) _
    generalize hA2 : A1.alloc (.cells #[.string ⟨#[]⟩, .string ⟨#[]⟩] 23) = A2
    have z2 : A2.heap.size = w.heap.size + 1 + 1 + 1 := by rw [← hA2]; simp [z1]
    have n2 : Row A2 (w.heap.size + 1 + 1) 23 [.string ⟨#[]⟩, .string ⟨#[]⟩] := by rw [← z1, ← hA2]; exact Row.new _ _ _
    have p2 : Below A1.heap.size A1 A2 := by rw [← hA2]; exact (Below.refl _ _).alloc (Nat.le_refl _) _
    generalize hA3 : A2.alloc (.cells #[.string ⟨#[]⟩] 9) = A3
    have z3 : A3.heap.size = w.heap.size + 1 + 1 + 1 + 1 := by rw [← hA3]; simp [z2]
    have n3 : Box A3 (w.heap.size + 1 + 1 + 1) ⟨#[]⟩ := by rw [← z2, ← hA3]; exact Row.new _ _ _
    have p3 : Below A2.heap.size A2 A3 := by rw [← hA3]; exact (Below.refl _ _).alloc (Nat.le_refl _) _
    generalize hA4 : A3.alloc (.cells #[.string ⟨#[]⟩] 9) = A4
    have z4 : A4.heap.size = w.heap.size + 1 + 1 + 1 + 1 + 1 := by rw [← hA4]; simp [z3]
    have n4 : Box A4 (w.heap.size + 1 + 1 + 1 + 1) ⟨#[]⟩ := by rw [← z3, ← hA4]; exact Row.new _ _ _
    have p4 : Below A3.heap.size A3 A4 := by rw [← hA4]; exact (Below.refl _ _).alloc (Nat.le_refl _) _
    generalize hA5 : A4.alloc (.cells #[.string ⟨#[]⟩] 9) = A5
    have z5 : A5.heap.size = w.heap.size + 1 + 1 + 1 + 1 + 1 + 1 := by rw [← hA5]; simp [z4]
    have n5 : Box A5 (w.heap.size + 1 + 1 + 1 + 1 + 1) ⟨#[]⟩ := by rw [← z4, ← hA5]; exact Row.new _ _ _
    have p5 : Below A4.heap.size A4 A5 := by rw [← hA5]; exact (Below.refl _ _).alloc (Nat.le_refl _) _
    generalize hA6 : A5.alloc (.cells #[.string ⟨#[]⟩] 9) = A6
    have z6 : A6.heap.size = w.heap.size + 1 + 1 + 1 + 1 + 1 + 1 + 1 := by rw [← hA6]; simp [z5]
    have n6 : Box A6 (w.heap.size + 1 + 1 + 1 + 1 + 1 + 1) ⟨#[]⟩ := by rw [← z5, ← hA6]; exact Row.new _ _ _
    have p6 : Below A5.heap.size A5 A6 := by rw [← hA6]; exact (Below.refl _ _).alloc (Nat.le_refl _) _
    have k5 := p6
    have k4 := Below.andThen p5 k5
    have k3 := Below.andThen p4 k4
    have k2 := Below.andThen p3 k3
    have k1 := Below.andThen p2 k2
    have k0 := Below.andThen p1 k1
    exact ⟨n0.next k0, n1.next k1, n2.next k2, n3.next k3, n4.next k4, n5.next k5, n6, Below.andThen p0 k0, z6⟩
  rw [← hb6, ← hb5, ← hb4, ← hb3, ← hb2, ← hb1, ← hb0]
  have HE := Lib.hid (show b1 = b0 + 1 ∧ b2 = b0 + 2 ∧ b3 = b0 + 3 ∧ b4 = b0 + 4 ∧ b5 = b0 + 5 ∧ b6 = b0 + 6 ∧ b0 = w.heap.size from by omega)
  have HR := Lib.hid R1
  clear hw R1 hb0 hb1 hb2 hb3 hb4 hb5 hb6
  have CELLS := Lib.hid (fun (W : World) (h : Below w1.heap.size w1 W) => show W.cell? ⟨b0, 0, none⟩ = some (.string a1) ∧ W.cell? ⟨b0, 1, none⟩ = some (.string a2) ∧ W.cell? ⟨b1, 0, none⟩ = some (.string c1) ∧ W.cell? ⟨b1, 1, none⟩ = some (.string c2) from
    ⟨((HR.out.1.next h).cell 0).trans rfl, ((HR.out.1.next h).cell 1).trans rfl, ((HR.out.2.1.next h).cell 0).trans rfl, ((HR.out.2.1.next h).cell 1).trans rfl⟩)
  have hB0 : Below w1.heap.size w1 w1 := Below.refl _ _
  obtain ⟨k0, k1, k2, k3⟩ := CELLS.out w1 hB0
  obtain ⟨l0, l1, l2⟩ : b0 < w1.heap.size ∧ b1 < w1.heap.size ∧ b2 < w1.heap.size := ⟨HR.out.1.lt, HR.out.2.1.lt, HR.out.2.2.1.lt⟩
  have d02 : b0 ≠ b2 := by have := HE.out; omega
  have d12 : b1 ≠ b2 := by have := HE.out; omega
  (go_region_held3 (fun w' => w'.cell? ⟨b0, 0, none⟩ = some (.string a1) ∧ w'.cell? ⟨b0, 1, none⟩ = some (.string a2) ∧ w'.cell? ⟨b1, 0, none⟩ = some (.string c1) ∧ w'.cell? ⟨b1, 1, none⟩ = some (.string c2)) (first | exact ⟨by assumption, by assumption, by assumption, by assumption⟩ | exact CELLS.out _ (below_new (by assumption) _) | exact ⟨((World.cell?_setCell_far _ _ _ _ (fun e => d02 e.symm)).trans (World.cell?_setCell_far _ _ _ _ (fun e => d02 e.symm))).trans (by assumption), ((World.cell?_setCell_far _ _ _ _ (fun e => d02 e.symm)).trans (World.cell?_setCell_far _ _ _ _ (fun e => d02 e.symm))).trans (by assumption), ((World.cell?_setCell_far _ _ _ _ (fun e => d12 e.symm)).trans (World.cell?_setCell_far _ _ _ _ (fun e => d12 e.symm))).trans (by assumption), ((World.cell?_setCell_far _ _ _ _ (fun e => d12 e.symm)).trans (World.cell?_setCell_far _ _ _ _ (fun e => d12 e.symm))).trans (by assumption)⟩ | go_keep)
    (first
      | (go_at_call 67
         first
          | (refine Calls.mono (set_any_Mul (b3, 0) (b0, 0) (b1, 1) _) ?_; rintro e wx1 ⟨rfl, hs1, hbx1⟩
             have hB1 := Below.andThen (by first | assumption | exact Below.drew (by assumption) : Below w1.heap.size w1 _) hbx1
             obtain ⟨k10, k11, k12, k13⟩ := CELLS.out wx1 hB1)
          | (refine Calls.mono (set_any_Mul (b4, 0) (b1, 0) (b0, 1) _) ?_; rintro e wx2 ⟨rfl, hs2, hbx2⟩
             have hB2 := Below.andThen (by first | assumption | exact Below.drew (by assumption) : Below w1.heap.size w1 _) hbx2
             obtain ⟨k20, k21, k22, k23⟩ := CELLS.out wx2 hB2)
          | (refine Calls.mono (set_any_Add (b5, 0) (b3, 0) (b4, 0) _) ?_; rintro e wx3 ⟨rfl, hs3, hbx3⟩
             have hB3 := Below.andThen (by first | assumption | exact Below.drew (by assumption) : Below w1.heap.size w1 _) hbx3
             obtain ⟨k30, k31, k32, k33⟩ := CELLS.out wx3 hB3)
          | (refine Calls.mono (set_any_Mul (b6, 0) (b0, 1) (b1, 1) _) ?_; rintro e wx4 ⟨rfl, hs4, hbx4⟩
             have hB4 := Below.andThen (by first | assumption | exact Below.drew (by assumption) : Below w1.heap.size w1 _) hbx4
             obtain ⟨k40, k41, k42, k43⟩ := CELLS.out wx4 hB4))
      | (go_at_call 66
         refine Calls.mono (comb_end_add w w1 wx1 wx2 wx3 wx4 a1 a2 c1 c2 HT.out HR.out HE.out hs1 hB1 hs2 hbx2 hs3 hbx3 hs4 hbx4) ?_
         rintro e wf ⟨hre, hbf, hrows⟩
         rw [HQ.out] at hre
         subst hre
         have HF := Lib.hid (And.intro hbf hrows)
         have c0 := (hrows.1.cell 0).trans (show _ = some (Value.string a1) from rfl)
         have c1' := (hrows.1.cell 1).trans (show _ = some (Value.string a2) from rfl)
         have c2' := (hrows.2.1.cell 0).trans (show _ = some (Value.string c1) from rfl)
         have c3 := (hrows.2.1.cell 1).trans (show _ = some (Value.string c2) from rfl)
         have r0 := (hrows.2.2.cell 0).trans (show _ = some (Value.string ⟨#[]⟩) from rfl)
         have r1 := (hrows.2.2.cell 1).trans (show _ = some (Value.string ⟨#[]⟩) from rfl)
         have f0 := hrows.2.2.frozen 0
         have f1 := hrows.2.2.frozen 1
         have lr := hrows.2.2.lt
         clear hbf hrows)))
  all_goals
    go_wp2_with fail
    have hle : w.heap.size ≤ b2 := by have := HE.out; omega
    refine bodyPost_ret (v := .tuple #[ratV (q1, q2), .int .i64 ec]) (by first | (simp [results, Tryz.results64, go_sem]; done) | simp [results, Tryz.results64, go_sem, *]) rfl ⟨rfl, (HF.out.1.setCell (p := ⟨b2, 0, none⟩) hle _).setCell (p := ⟨b2, 1, none⟩) hle _⟩
theorem mach_sub {w0 w : World} {b0 b1 b3 b4 b5 b6 m1 m2 m3 m4 b : Nat} {a1 a2 c1 c2 : ByteArray} (hb : Below w0.heap.size w0 w) (r0 : Row w b0 23 [.string a1, .string a2]) (r1 : Row w b1 23 [.string c1, .string c2]) (r3 : Box w b3 ⟨#[]⟩) (r4 : Box w b4 ⟨#[]⟩) (r5 : Box w b5 ⟨#[]⟩) (r6 : Box w b6 ⟨#[]⟩)
    (t1 : Step w 68 m1 (b3, 0) (b0, 0) (b1, 1)) (t2 : Step w 68 m2 (b4, 0) (b1, 0) (b0, 1)) (t3 : Step w 69 m3 (b5, 0) (b3, 0) (b4, 0)) (t4 : Step w 68 m4 (b6, 0) (b0, 1) (b1, 1)) (hs : Row w b 80 [stepV m1, stepV m2, stepV m3, stepV m4]) :
    Mach w0 8 4 (v8 b0 b1 b3 b4 b5 b6) (n5 m1 m2 m3 m4 0) (PC .sub) b 0 (s8 a1 a2 c1 c2) w := by
  refine ⟨hb, fun j hj => ?_, fun m hm => ?_, fun m hm => ?_, hs.lt⟩
  · rcases eight_cases hj with rfl | rfl | rfl | rfl | rfl | rfl | rfl | rfl
    · exact Var.of r0 rfl
    · exact Var.of r0 rfl
    · exact Var.of r1 rfl
    · exact Var.of r1 rfl
    · exact Var.of r3 rfl
    · exact Var.of r4 rfl
    · exact Var.of r5 rfl
    · exact Var.of r6 rfl
  · rcases four_cases hm with rfl | rfl | rfl | rfl
    · exact t1
    · exact t2
    · exact t3
    · exact t4
  · rw [Nat.zero_add, hs.cell]
    rcases four_cases hm with rfl | rfl | rfl | rfl <;> rfl
theorem comb_end_sub (w w1 x1 x2 x3 x4 : World) {b0 b1 b2 b3 b4 b5 b6 : Nat} (a1 a2 c1 c2 : ByteArray) (T : TabI w)
    (R : Row w1 b0 23 [.string a1, .string a2] ∧ Row w1 b1 23 [.string c1, .string c2] ∧ Row w1 b2 23 [.string ⟨#[]⟩, .string ⟨#[]⟩] ∧ Box w1 b3 ⟨#[]⟩ ∧ Box w1 b4 ⟨#[]⟩ ∧ Box w1 b5 ⟨#[]⟩ ∧ Box w1 b6 ⟨#[]⟩ ∧ Below w.heap.size w w1 ∧ w1.heap.size = b6 + 1)
    (E : b1 = b0 + 1 ∧ b2 = b0 + 2 ∧ b3 = b0 + 3 ∧ b4 = b0 + 4 ∧ b5 = b0 + 5 ∧ b6 = b0 + 6 ∧ b0 = w.heap.size)
    (t1 : Step x1 68 w1.heap.size (b3, 0) (b0, 0) (b1, 1)) (g1 : Below w1.heap.size w1 x1)
    (t2 : Step x2 68 x1.heap.size (b4, 0) (b1, 0) (b0, 1)) (g2 : Below x1.heap.size x1 x2)
    (t3 : Step x3 69 x2.heap.size (b5, 0) (b3, 0) (b4, 0)) (g3 : Below x2.heap.size x2 x3)
    (t4 : Step x4 68 x3.heap.size (b6, 0) (b0, 1) (b1, 1)) (g4 : Below x3.heap.size x3 x4) :
    Calls Tryz.prog 66 #[ratV (a1, a2), ratV (c1, c2), ptrA (b5, 0), ptrA (b6, 0), .slice (some ⟨x4.heap.size, 0, none⟩) 4 4] (x4.alloc (.cells #[stepV w1.heap.size, stepV x1.heap.size, stepV x2.heap.size, stepV x3.heap.size] 80)) fun e w' =>
      e = .returned (resV (Ra.subO (Ra.val (a1, a2)) (Ra.val (c1, c2)))) ∧ Below w.heap.size w w' ∧ Row w' b0 23 [.string a1, .string a2] ∧ Row w' b1 23 [.string c1, .string c2] ∧ Row w' b2 23 [.string ⟨#[]⟩, .string ⟨#[]⟩] := by
  obtain ⟨q0, q1, q2, q3, q4, q5, q6, q7, q8⟩ := R
  have g5 : Below x4.heap.size x4 (x4.alloc (.cells #[stepV w1.heap.size, stepV x1.heap.size, stepV x2.heap.size, stepV x3.heap.size] 80)) := below_new (Below.refl _ _) _
  have hs : Row (x4.alloc (.cells #[stepV w1.heap.size, stepV x1.heap.size, stepV x2.heap.size, stepV x3.heap.size] 80)) x4.heap.size 80 [stepV w1.heap.size, stepV x1.heap.size, stepV x2.heap.size, stepV x3.heap.size] := Row.new _ _ _
  generalize x4.alloc (.cells #[stepV w1.heap.size, stepV x1.heap.size, stepV x2.heap.size, stepV x3.heap.size] 80) = ws at *
  have h4 := Below.andThen g4 g5
  have h3 := Below.andThen g3 h4
  have h2 := Below.andThen g2 h3
  have h1 := Below.andThen g1 h2
  have z1 := g1.size
  have z2 := g2.size
  have z3 := g3.size
  have z4 := g4.size
  have zs := hs.lt
  refine (finish_is w 8 4 4 _ _ _ x4.heap.size 0 _ ws T (by decide) (Nat.le_refl _) (lay_comb .sub (b0 := b0) (b1 := b1) (b3 := b3) (b4 := b4) (b5 := b5) (b6 := b6) (m1 := w1.heap.size) (m2 := x1.heap.size) (m3 := x2.heap.size) (m4 := x3.heap.size) ⟨by omega, by omega, by omega, by omega, by omega, by omega⟩ (by omega) (by omega) (by omega) (by omega) (by omega))
    (mach_sub (Below.andThen q7 h1) (q0.next h1) (q1.next h1) (q3.next h1) (q4.next h1) (q5.next h1) (q6.next h1) (t1.next h2) (t2.next h3) (t3.next h4) (t4.next g5) hs) (a1, a2) (c1, c2) 6 7 (by decide) (by decide)
    (fun W => Row W b0 23 [.string a1, .string a2] ∧ Row W b1 23 [.string c1, .string c2] ∧ Row W b2 23 [.string ⟨#[]⟩, .string ⟨#[]⟩]) ⟨q0.next h1, q1.next h1, q2.next h1⟩ ?_ ?_ ?_ _ (comb_sub a1 a2 c1 c2).1 (comb_sub a1 a2 c1 c2).2).mono (fun _ _ h => h)
  · rintro W wm m v hm ⟨r0, r1, r2⟩ hb
    rcases four_cases hm with rfl | rfl | rfl | rfl
    · exact ⟨(r0.next hb).other (show b0 ≠ b3 by omega) _ _, (r1.next hb).other (show b1 ≠ b3 by omega) _ _, (r2.next hb).other (show b2 ≠ b3 by omega) _ _⟩
    · exact ⟨(r0.next hb).other (show b0 ≠ b4 by omega) _ _, (r1.next hb).other (show b1 ≠ b4 by omega) _ _, (r2.next hb).other (show b2 ≠ b4 by omega) _ _⟩
    · exact ⟨(r0.next hb).other (show b0 ≠ b5 by omega) _ _, (r1.next hb).other (show b1 ≠ b5 by omega) _ _, (r2.next hb).other (show b2 ≠ b5 by omega) _ _⟩
    · exact ⟨(r0.next hb).other (show b0 ≠ b6 by omega) _ _, (r1.next hb).other (show b1 ≠ b6 by omega) _ _, (r2.next hb).other (show b2 ≠ b6 by omega) _ _⟩
  · rintro W wm ⟨r0, r1, r2⟩ hb
    exact ⟨r0.next hb, r1.next hb, r2.next hb⟩
  · rintro W b o v hb ⟨r0, r1, r2⟩
    exact ⟨r0.other (by omega) _ _, r1.other (by omega) _ _, r2.other (by omega) _ _⟩
set_option maxRecDepth 100000 in
set_option maxHeartbeats 8000000 in
theorem combine_sub (ra rb : ByteArray × ByteArray) (w : World) (T : TabI w) :
    Calls Tryz.prog 64 #[ratV ra, ratV rb, .func (.func 69) #[] #[]] w fun e w' => e = .returned (resV (Ra.subO (Ra.val ra) (Ra.val rb))) ∧ Below w.heap.size w w' := by
  obtain ⟨a1, a2⟩ := ra
  obtain ⟨c1, c2⟩ := rb
  have HT := Lib.hid T
  have HC := Lib.hid (comb_sub a1 a2 c1 c2)
  obtain ⟨q1, q2, ec, htq⟩ : ∃ (q1 q2 : ByteArray) (ec : Int), resV (Ra.subO (Ra.val (a1, a2)) (Ra.val (c1, c2))) = .tuple #[ratV (q1, q2), .int .i64 ec] := by
    cases Ra.subO (Ra.val (a1, a2)) (Ra.val (c1, c2)) with
    | none => exact ⟨⟨#[]⟩, ⟨#[]⟩, 40, rfl⟩
    | some v => exact ⟨In.txt v.1, In.txt v.2, 0, rfl⟩
  rw [htq]
  have HQ := Lib.hid htq
  clear T htq
  go_enter Tryz.func64, Tryz.ntmps64
  go_upto_region 2 with (fail)
  refine wp_named fun w1 hw => ?_
  obtain ⟨b0, hb0⟩ : ∃ x, x = w.heap.size := ⟨_, rfl⟩
  obtain ⟨b1, hb1⟩ : ∃ x, x = w.heap.size + 1 := ⟨_, rfl⟩
  obtain ⟨b2, hb2⟩ : ∃ x, x = w.heap.size + 1 + 1 := ⟨_, rfl⟩
  obtain ⟨b3, hb3⟩ : ∃ x, x = w.heap.size + 1 + 1 + 1 := ⟨_, rfl⟩
  obtain ⟨b4, hb4⟩ : ∃ x, x = w.heap.size + 1 + 1 + 1 + 1 := ⟨_, rfl⟩
  obtain ⟨b5, hb5⟩ : ∃ x, x = w.heap.size + 1 + 1 + 1 + 1 + 1 := ⟨_, rfl⟩
  obtain ⟨b6, hb6⟩ : ∃ x, x = w.heap.size + 1 + 1 + 1 + 1 + 1 + 1 := ⟨_, rfl⟩
  have R1 : Row w1 b0 23 [.string a1, .string a2] ∧ Row w1 b1 23 [.string c1, .string c2] ∧ Row w1 b2 23 [.string ⟨#[]⟩, .string ⟨#[]⟩] ∧ Box w1 b3 ⟨#[]⟩ ∧ Box w1 b4 ⟨#[]⟩ ∧ Box w1 b5 ⟨#[]⟩ ∧ Box w1 b6 ⟨#[]⟩ ∧ Below w.heap.size w w1 ∧ w1.heap.size = b6 + 1 := by
    rw [hw, hb0, hb1, hb2, hb3, hb4, hb5, hb6]
    generalize hA0 : w.alloc (.cells #[.string a1, .string a2] 23) = A0
    have z0 : A0.heap.size = w.heap.size + 1 := by rw [← hA0]; simp
    have n0 : Row A0 w.heap.size 23 [.string a1, .string a2] := by rw [← hA0]; exact Row.new _ _ _
    have p0 : Below w.heap.size w A0 := by rw [← hA0]; exact (Below.refl _ _).alloc (Nat.le_refl _) _
    generalize hA1 : A0.alloc (.cells #[.string c1, .string c2] 23) = A1
    have z1 : A1.heap.size = w.heap.size + 1 + 1 := by rw [← hA1]; simp [z0]
    have n1 : Row A1 (w.heap.size + 1) 23 [.string c1, .string c2] := by rw [← z0, ← hA1]; exact Row.new _ _ _
    have p1 : Below A0.heap.size A0 A1 := by rw [← hA1]; exact (Below.refl _ _).alloc (Nat.le_refl _) _
    generalize hA2 : A1.alloc (.cells #[.string ⟨#[]⟩, .string ⟨#[]⟩] 23) = A2
    have z2 : A2.heap.size = w.heap.size + 1 + 1 + 1 := by rw [← hA2]; simp [z1]
    have n2 : Row A2 (w.heap.size + 1 + 1) 23 [.string ⟨#[]⟩, .string ⟨#[]⟩] := by rw [← z1, ← hA2]; exact Row.new _ _ _
    have p2 : Below A1.heap.size A1 A2 := by rw [← hA2]; exact (Below.refl _ _).alloc (Nat.le_refl _) _
    generalize hA3 : A2.alloc (.cells #[.string ⟨#[]⟩] 9) = A3
    have z3 : A3.heap.size = w.heap.size + 1 + 1 + 1 + 1 := by rw [← hA3]; simp [z2]
    have n3 : Box A3 (w.heap.size + 1 + 1 + 1) ⟨#[]⟩ := by rw [← z2, ← hA3]; exact Row.new _ _ _
    have p3 : Below A2.heap.size A2 A3 := by rw [← hA3]; exact (Below.refl _ _).alloc (Nat.le_refl _) _
    generalize hA4 : A3.alloc (.cells #[.string ⟨#[]⟩] 9) = A4
    have z4 : A4.heap.size = w.heap.size + 1 + 1 + 1 + 1 + 1 := by rw [← hA4]; simp [z3]
    have n4 : Box A4 (w.heap.size + 1 + 1 + 1 + 1) ⟨#[]⟩ := by rw [← z3, ← hA4]; exact Row.new _ _ _
    have p4 : Below A3.heap.size A3 A4 := by rw [← hA4]; exact (Below.refl _ _).alloc (Nat.le_refl _) _
    generalize hA5 : A4.alloc (.cells #[.string ⟨#[]⟩] 9) = A5
    have z5 : A5.heap.size = w.heap.size + 1 + 1 + 1 + 1 + 1 + 1 := by rw [← hA5]; simp [z4]
    have n5 : Box A5 (w.heap.size + 1 + 1 + 1 + 1 + 1) ⟨#[]⟩ := by rw [← z4, ← hA5]; exact Row.new _ _ _
    have p5 : Below A4.heap.size A4 A5 := by rw [← hA5]; exact (Below.refl _ _).alloc (Nat.le_refl _) _
    generalize hA6 : A5.alloc (.cells #[.string ⟨#[]⟩] 9) = A6
    have z6 : A6.heap.size = w.heap.size + 1 + 1 + 1 + 1 + 1 + 1 + 1 := by rw [← hA6]; simp [z5]
    have n6 : Box A6 (w.heap.size + 1 + 1 + 1 + 1 + 1 + 1) ⟨#[]⟩ := by rw [← z5, ← hA6]; exact Row.new _ _ _
    have p6 : Below A5.heap.size A5 A6 := by rw [← hA6]; exact (Below.refl _ _).alloc (Nat.le_refl _) _
    have k5 := p6
    have k4 := Below.andThen p5 k5
    have k3 := Below.andThen p4 k4
    have k2 := Below.andThen p3 k3
    have k1 := Below.andThen p2 k2
    have k0 := Below.andThen p1 k1
    exact ⟨n0.next k0, n1.next k1, n2.next k2, n3.next k3, n4.next k4, n5.next k5, n6, Below.andThen p0 k0, z6⟩
  rw [← hb6, ← hb5, ← hb4, ← hb3, ← hb2, ← hb1, ← hb0]
  have HE := Lib.hid (show b1 = b0 + 1 ∧ b2 = b0 + 2 ∧ b3 = b0 + 3 ∧ b4 = b0 + 4 ∧ b5 = b0 + 5 ∧ b6 = b0 + 6 ∧ b0 = w.heap.size from by omega)
  have HR := Lib.hid R1
  clear hw R1 hb0 hb1 hb2 hb3 hb4 hb5 hb6
  have CELLS := Lib.hid (fun (W : World) (h : Below w1.heap.size w1 W) => show W.cell? ⟨b0, 0, none⟩ = some (.string a1) ∧ W.cell? ⟨b0, 1, none⟩ = some (.string a2) ∧ W.cell? ⟨b1, 0, none⟩ = some (.string c1) ∧ W.cell? ⟨b1, 1, none⟩ = some (.string c2) from
    ⟨((HR.out.1.next h).cell 0).trans rfl, ((HR.out.1.next h).cell 1).trans rfl, ((HR.out.2.1.next h).cell 0).trans rfl, ((HR.out.2.1.next h).cell 1).trans rfl⟩)
  have hB0 : Below w1.heap.size w1 w1 := Below.refl _ _
  obtain ⟨k0, k1, k2, k3⟩ := CELLS.out w1 hB0
  obtain ⟨l0, l1, l2⟩ : b0 < w1.heap.size ∧ b1 < w1.heap.size ∧ b2 < w1.heap.size := ⟨HR.out.1.lt, HR.out.2.1.lt, HR.out.2.2.1.lt⟩
  have d02 : b0 ≠ b2 := by have := HE.out; omega
  have d12 : b1 ≠ b2 := by have := HE.out; omega
  (go_region_held3 (fun w' => w'.cell? ⟨b0, 0, none⟩ = some (.string a1) ∧ w'.cell? ⟨b0, 1, none⟩ = some (.string a2) ∧ w'.cell? ⟨b1, 0, none⟩ = some (.string c1) ∧ w'.cell? ⟨b1, 1, none⟩ = some (.string c2)) (first | exact ⟨by assumption, by assumption, by assumption, by assumption⟩ | exact CELLS.out _ (below_new (by assumption) _) | exact ⟨((World.cell?_setCell_far _ _ _ _ (fun e => d02 e.symm)).trans (World.cell?_setCell_far _ _ _ _ (fun e => d02 e.symm))).trans (by assumption), ((World.cell?_setCell_far _ _ _ _ (fun e => d02 e.symm)).trans (World.cell?_setCell_far _ _ _ _ (fun e => d02 e.symm))).trans (by assumption), ((World.cell?_setCell_far _ _ _ _ (fun e => d12 e.symm)).trans (World.cell?_setCell_far _ _ _ _ (fun e => d12 e.symm))).trans (by assumption), ((World.cell?_setCell_far _ _ _ _ (fun e => d12 e.symm)).trans (World.cell?_setCell_far _ _ _ _ (fun e => d12 e.symm))).trans (by assumption)⟩ | go_keep)
    (first
      | (go_at_call 67
         first
          | (refine Calls.mono (set_any_Mul (b3, 0) (b0, 0) (b1, 1) _) ?_; rintro e wx1 ⟨rfl, hs1, hbx1⟩
             have hB1 := Below.andThen (by first | assumption | exact Below.drew (by assumption) : Below w1.heap.size w1 _) hbx1
             obtain ⟨k10, k11, k12, k13⟩ := CELLS.out wx1 hB1)
          | (refine Calls.mono (set_any_Mul (b4, 0) (b1, 0) (b0, 1) _) ?_; rintro e wx2 ⟨rfl, hs2, hbx2⟩
             have hB2 := Below.andThen (by first | assumption | exact Below.drew (by assumption) : Below w1.heap.size w1 _) hbx2
             obtain ⟨k20, k21, k22, k23⟩ := CELLS.out wx2 hB2)
          | (refine Calls.mono (set_any_Sub (b5, 0) (b3, 0) (b4, 0) _) ?_; rintro e wx3 ⟨rfl, hs3, hbx3⟩
             have hB3 := Below.andThen (by first | assumption | exact Below.drew (by assumption) : Below w1.heap.size w1 _) hbx3
             obtain ⟨k30, k31, k32, k33⟩ := CELLS.out wx3 hB3)
          | (refine Calls.mono (set_any_Mul (b6, 0) (b0, 1) (b1, 1) _) ?_; rintro e wx4 ⟨rfl, hs4, hbx4⟩
             have hB4 := Below.andThen (by first | assumption | exact Below.drew (by assumption) : Below w1.heap.size w1 _) hbx4
             obtain ⟨k40, k41, k42, k43⟩ := CELLS.out wx4 hB4))
      | (go_at_call 66
         refine Calls.mono (comb_end_sub w w1 wx1 wx2 wx3 wx4 a1 a2 c1 c2 HT.out HR.out HE.out hs1 hB1 hs2 hbx2 hs3 hbx3 hs4 hbx4) ?_
         rintro e wf ⟨hre, hbf, hrows⟩
         rw [HQ.out] at hre
         subst hre
         have HF := Lib.hid (And.intro hbf hrows)
         have c0 := (hrows.1.cell 0).trans (show _ = some (Value.string a1) from rfl)
         have c1' := (hrows.1.cell 1).trans (show _ = some (Value.string a2) from rfl)
         have c2' := (hrows.2.1.cell 0).trans (show _ = some (Value.string c1) from rfl)
         have c3 := (hrows.2.1.cell 1).trans (show _ = some (Value.string c2) from rfl)
         have r0 := (hrows.2.2.cell 0).trans (show _ = some (Value.string ⟨#[]⟩) from rfl)
         have r1 := (hrows.2.2.cell 1).trans (show _ = some (Value.string ⟨#[]⟩) from rfl)
         have f0 := hrows.2.2.frozen 0
         have f1 := hrows.2.2.frozen 1
         have lr := hrows.2.2.lt
         clear hbf hrows)))
  all_goals
    go_wp2_with fail
    have hle : w.heap.size ≤ b2 := by have := HE.out; omega
    refine bodyPost_ret (v := .tuple #[ratV (q1, q2), .int .i64 ec]) (by first | (simp [results, Tryz.results64, go_sem]; done) | simp [results, Tryz.results64, go_sem, *]) rfl ⟨rfl, (HF.out.1.setCell (p := ⟨b2, 0, none⟩) hle _).setCell (p := ⟨b2, 1, none⟩) hle _⟩
end Go.Proofs.YtlehjmanlccncaaGreatDoor
