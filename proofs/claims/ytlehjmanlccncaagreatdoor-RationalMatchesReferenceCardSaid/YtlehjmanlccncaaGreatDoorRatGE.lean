/- Compare: a walk back to a label. -/
/- Compare, whatever its arguments are. -/
import Derived.Test.YtlehjmanlccncaaGreatDoorRatGB
import Derived.ScopeJumps
import Derived.WalkMore
set_option linter.unusedVariables false
set_option linter.unusedSimpArgs false
namespace Go.Proofs.YtlehjmanlccncaaGreatDoor
open Go.RowKit

theorem Fit_mod {x y : Int} (hy : 0 < y) (fy : In.Fit y) : In.Fit (x % y) := by
  have h1 := Int.emod_nonneg x (show y ≠ 0 by omega)
  have h2 := Int.emod_lt_of_pos x hy
  show (x % y).natAbs < 10 ^ 200
  exact Nat.lt_of_le_of_lt (by omega) (show y.natAbs < 10 ^ 200 from fy)
theorem Fit_quo {x y : Int} (fx : In.Fit x) : In.Fit (x / y) := Nat.lt_of_le_of_lt (In.quo_le x y) fx
theorem div_fit {x y : Int} (fx : In.Fit x) (hy : 0 < y ∧ In.Fit y) (w : World) (T : TabI w) :
    Calls Tryz.prog 50 #[.string (In.txt x), .string (In.txt y)] w fun e w' => e = .returned (.tuple #[.string (In.txt (x / y)), .string (In.txt (x % y)), .int .i64 0]) ∧ Below w.heap.size w w' := by
  have h := Div_any (In.txt x) (In.txt y) w T
  rw [In.divS_some (In.num_fit fx) (In.num_fit hy.2) (by omega), if_pos (Fit_quo fx)] at h
  exact h
/-- the denominator that a pair of cells holds -/
def denC (w : World) (b : Nat) : Nat := match w.cell? ⟨b, 1, none⟩ with | some (.string s) => ((In.num s).getD 0).toNat | _ => 0
theorem denC_row {w : World} {b : Nat} {v : Value} {y : Int} (h : Row w b 23 [v, .string (In.txt y)]) (fy : In.Fit y) : denC w b = y.toNat := by
  unfold denC
  rw [(h.cell 1).trans (show _ = some (Value.string (In.txt y)) from rfl)]
  dsimp only
  rw [In.num_fit fy]
  rfl
structure CInv (w : World) (b0 b1 : Nat) (g x y z t : Int) (w' : World) : Prop where
  base : Below w.heap.size w w'
  r0 : Row w' b0 23 [.string (In.txt x), .string (In.txt y)]
  r1 : Row w' b1 23 [.string (In.txt z), .string (In.txt t)]
  py : 0 < y
  pt : 0 < t
  fx : In.Fit x
  fy : In.Fit y
  fz : In.Fit z
  ft : In.Fit t
  cmp : Ra.cmpQ x y z t = g
theorem CInv.next {w : World} {b0 b1 : Nat} {g x y z t : Int} {w' w'' : World} (h : CInv w b0 b1 g x y z t w') (hb : Below w'.heap.size w' w'') : CInv w b0 b1 g x y z t w'' :=
  ⟨Below.andThen h.base hb, h.r0.next hb, h.r1.next hb, h.py, h.pt, h.fx, h.fy, h.fz, h.ft, h.cmp⟩
theorem CInv.turn {w : World} {b0 b1 : Nat} {g x y z t : Int} {w' : World} (h : CInv w b0 b1 g x y z t w') (hq : x / y = z / t) (h0 : ¬ (x % y = 0 ∨ z % t = 0)) (hb : b0 ≠ b1) (h1 : w.heap.size ≤ b0) (h2 : w.heap.size ≤ b1) :
    CInv w b0 b1 g t (z % t) y (x % y) ((((w'.setCell ⟨b0, 0, none⟩ (.string (In.txt t))).setCell ⟨b0, 1, none⟩ (.string (In.txt (z % t)))).setCell ⟨b1, 0, none⟩ (.string (In.txt y))).setCell ⟨b1, 1, none⟩ (.string (In.txt (x % y)))) ∧
    (x % y).toNat + (z % t).toNat < y.toNat + t.toNat := by
  have p1 := h.py
  have p2 := h.pt
  have m1 := Int.emod_nonneg x (show y ≠ 0 by omega)
  have m2 := Int.emod_lt_of_pos x h.py
  have m3 := Int.emod_nonneg z (show t ≠ 0 by omega)
  have m4 := Int.emod_lt_of_pos z h.pt
  refine ⟨⟨(((h.base.setCell (p := ⟨b0, 0, none⟩) h1 _).setCell (p := ⟨b0, 1, none⟩) h1 _).setCell (p := ⟨b1, 0, none⟩) h2 _).setCell (p := ⟨b1, 1, none⟩) h2 _, (((h.r0.set 0 _).set 1 _).other hb _ _).other hb _ _, (((h.r1.other (fun e => hb e.symm) _ _).other (fun e => hb e.symm) _ _).set 0 _).set 1 _, by omega, by omega, h.ft, Fit_mod h.pt h.ft, h.fy, Fit_mod h.py h.fy, ?_⟩, by omega⟩
  rw [← h.cmp]
  exact (Ra.cmpQ_turn hq).symm
set_option maxRecDepth 100000 in
set_option maxHeartbeats 8000000 in
theorem Compare_t (ra rb : ByteArray × ByteArray) (p q : Int × Int) (hp : Ra.val ra = some p) (hq : Ra.val rb = some q) (w : World) (T : TabI w) :
    Calls Tryz.prog 20 #[ratV ra, ratV rb] w fun e w' => e = .returned (.int .i64 (Ra.cmpO (some p) (some q))) ∧ Below w.heap.size w w' := by
  have VA := Lib.hid (fun W T => Valid_r ra W T)
  have VB := Lib.hid (fun W T => Valid_r rb W T)
  rw [hp] at VA
  rw [hq] at VB
  have HT := Lib.hid T
  obtain ⟨vx, vo, -, -⟩ := Ra.val_some hp
  obtain ⟨wx, wo, -, -⟩ := Ra.val_some hq
  have HV := Lib.hid (And.intro (And.intro vx vo) (And.intro wx wo))
  obtain ⟨a1, a2⟩ := ra
  obtain ⟨c1, c2⟩ := rb
  obtain ⟨g, hg⟩ : ∃ g, g = Ra.cmpO (some p) (some q) := ⟨_, rfl⟩
  rw [← hg]
  have HG := Lib.hid hg
  clear T hp hq vx vo wx wo hg
  go_enter Tryz.func20, Tryz.ntmps20
  go_wp2
  refine wp_named fun w1 hw => ?_
  obtain ⟨b0, hb0⟩ : ∃ x, x = w.heap.size := ⟨_, rfl⟩
  obtain ⟨b1, hb1⟩ : ∃ x, x = w.heap.size + 1 := ⟨_, rfl⟩
  have R1 : Row w1 b0 23 [.string a1, .string a2] ∧ Row w1 b1 23 [.string c1, .string c2] ∧ Below w.heap.size w w1 := by
    rw [hw, hb0, hb1]
    refine ⟨(Row.new w _ [.string a1, .string a2]).alloc _, ?_, ((Below.refl _ _).alloc (Nat.le_refl _) _).alloc (by simp) _⟩
    have h := Row.new (w.alloc (.cells #[.string a1, .string a2] 23)) 23 [.string c1, .string c2]
    rw [World.size_alloc] at h
    exact h
  rw [← hb1, ← hb0]
  have HB := Lib.hid (show b0 ≠ b1 ∧ w.heap.size ≤ b0 ∧ w.heap.size ≤ b1 by omega)
  have HR0 := Lib.hid R1
  clear hw R1 hb0 hb1
  refine wp_scope_jumps 0 (fun a' w' => ∃ (x y z t : Int) (u5 u6 u7 u8 u9 u10 u11 u12 u13 u14 u15 u16 u17 u18 u19 u20 u21 u22 u23 u24 u25 u26 u27 u28 u29 u30 u31 u32 u33 u34 u35 u36 u37 u38 u39 u40 u41 u42 u43 u44 u45 u46 u47 u48 u49 u50 u51 u52 u53 u54 u55 u56 u57 u58 u59 : Value), a' = { tmps := #[ratV (a1, a2), ratV (c1, c2), .pointer (some ⟨b0, 0, none⟩), .pointer (some ⟨b1, 0, none⟩), .int .i64 0, u5, u6, u7, u8, u9, u10, u11, u12, u13, u14, u15, u16, u17, u18, u19, u20, u21, u22, u23, u24, u25, u26, u27, u28, u29, u30, u31, u32, u33, u34, u35, u36, u37, u38, u39, u40, u41, u42, u43, u44, u45, u46, u47, u48, u49, u50, u51, u52, u53, u54, u55, u56, u57, u58, u59], defers := [] } ∧ CInv w b0 b1 g x y z t w') (fun _ w' => denC w' b0 + denC w' b1) rfl ?_ ?_
  · have k0 := (HR0.out.1.cell 0).trans (show _ = some (Value.string a1) from rfl)
    have k1 := (HR0.out.1.cell 1).trans (show _ = some (Value.string a2) from rfl)
    have l0 := HR0.out.1.lt
    go_wp2_with fail
    with_reducible refine Calls.mono (VA.out _ (TabI.next HT.out HR0.out.2.2)) ?_
    rintro e w2 ⟨rfl, hb⟩
    have HR1 := Lib.hid (And.intro (HR0.out.1.next hb) (And.intro (HR0.out.2.1.next hb) (Below.andThen HR0.out.2.2 hb)))
    clear hb k0 k1 l0
    have k0 := (HR1.out.2.1.cell 0).trans (show _ = some (Value.string c1) from rfl)
    have k1 := (HR1.out.2.1.cell 1).trans (show _ = some (Value.string c2) from rfl)
    have l0 := HR1.out.2.1.lt
    go_wp2_with fail
    with_reducible refine Calls.mono (VB.out _ (TabI.next HT.out HR1.out.2.2)) ?_
    rintro e wz ⟨rfl, hb⟩
    have HI := Lib.hid (show CInv w b0 b1 g p.1 p.2 q.1 q.2 wz from by
      obtain ⟨⟨e1, o1⟩, e2, o2⟩ := HV.out
      obtain ⟨e3, e4⟩ := Prod.mk.inj e1
      obtain ⟨e5, e6⟩ := Prod.mk.inj e2
      refine ⟨Below.andThen HR1.out.2.2 hb, ?_, ?_, o1.low.1, o2.low.1, o1.num, o1.den, o2.num, o2.den, HG.out.symm⟩
      · rw [← e3, ← e4]; exact HR1.out.1.next hb
      · rw [← e5, ← e6]; exact HR1.out.2.1.next hb)
    clear hb k0 k1 l0 HV HG VA VB
    obtain ⟨x, y⟩ := p
    obtain ⟨z, t⟩ := q
    go_wp2_with fail
    go_step3
    obtain ⟨Q1, hQ1⟩ : ∃ s, s = In.txt (x / y) := ⟨_, rfl⟩
    obtain ⟨Q2, hQ2⟩ : ∃ s, s = In.txt (z / t) := ⟨_, rfl⟩
    obtain ⟨R1, hR1⟩ : ∃ s, s = In.txt (x % y) := ⟨_, rfl⟩
    obtain ⟨R2, hR2⟩ : ∃ s, s = In.txt (z % t) := ⟨_, rfl⟩
    obtain ⟨X, hX⟩ : ∃ s, s = In.txt x := ⟨_, rfl⟩
    obtain ⟨Y, hY⟩ : ∃ s, s = In.txt y := ⟨_, rfl⟩
    obtain ⟨Z, hZ⟩ : ∃ s, s = In.txt z := ⟨_, rfl⟩
    obtain ⟨S, hS⟩ : ∃ s, s = In.txt t := ⟨_, rfl⟩
    have D1 := Lib.hid (fun W T => div_fit HI.out.fx (And.intro HI.out.py HI.out.fy) W T)
    have D2 := Lib.hid (fun W T => div_fit HI.out.fz (And.intro HI.out.pt HI.out.ft) W T)
    have HZ1 := zero_text (x % y)
    have HZ2 := zero_text (z % t)
    rw [← hX, ← hY, ← hQ1, ← hR1] at D1
    rw [← hZ, ← hS, ← hQ2, ← hR2] at D2
    rw [← hR1] at HZ1
    rw [← hR2] at HZ2
    have k0 := (HI.out.r0.cell 0).trans (show _ = some (Value.string X) from by rw [hX]; rfl)
    have k1 := (HI.out.r0.cell 1).trans (show _ = some (Value.string Y) from by rw [hY]; rfl)
    have l0 := HI.out.r0.lt
    have HQ := Lib.hid (And.intro (And.intro hQ1 hQ2) (And.intro (And.intro hR1 hR2) (And.intro (And.intro hX hY) (And.intro hZ hS))))
    clear hQ1 hQ2 hR1 hR2 hX hY hZ hS
    go_wp2_with fail
    with_reducible refine Calls.mono (D1.out _ (TabI.next HT.out HI.out.base)) ?_
    rintro e wd ⟨rfl, hb⟩
    have HI2 := Lib.hid (HI.out.next hb)
    clear hb k0 k1 l0 D1
    have k0 := (HI2.out.r1.cell 0).trans (show _ = some (Value.string Z) from by rw [HQ.out.2.2.2.1]; rfl)
    have k1 := (HI2.out.r1.cell 1).trans (show _ = some (Value.string S) from by rw [HQ.out.2.2.2.2]; rfl)
    have l0 := HI2.out.r1.lt
    go_wp2_with fail
    with_reducible refine Calls.mono (D2.out _ (TabI.next HT.out HI2.out.base)) ?_
    rintro e we ⟨rfl, hb⟩
    have HI3 := Lib.hid (HI2.out.next hb)
    clear hb k0 k1 l0 D2
    by_cases h : x / y = z / t
    · have h12 : Q1 = Q2 := by rw [HQ.out.1.1, HQ.out.1.2, h]
      have HH := Lib.hid h
      clear h
      have HR := Lib.hid HQ.out.2
      clear HQ
      subst h12
      by_cases z0 : x % y = 0 ∨ z % t = 0
      · have CC := Lib.hid (fun W => Compare_any R1 R2 W)
        have hc : In.cmpS R1 R2 = g := by
          rw [HR.out.1.1, HR.out.1.2, In.cmpS_some (In.num_fit (Fit_mod HI3.out.py HI3.out.fy)) (In.num_fit (Fit_mod HI3.out.pt HI3.out.ft)), ← HI3.out.cmp]
          exact (Ra.cmpQ_zero HI3.out.py HI3.out.pt HH.out z0).symm
        rw [hc] at CC
        clear hc
        by_cases z1 : x % y = 0
        · rw [decide_eq_true z1] at HZ1
          clear z0 z1 HZ2
          go_wp2_with fail
          with_reducible refine Calls.mono (CC.out _) ?_
          rintro e wf ⟨rfl, hb⟩
          have HF := Lib.hid (Below.andThen HI3.out.base hb)
          clear hb
          go_wp2_with fail
          simp only [Exit.jump]
          go_ret
          exact ⟨rfl, HF.out⟩
        · rw [decide_eq_false z1] at HZ1
          rw [decide_eq_true (z0.resolve_left z1)] at HZ2
          clear z0 z1
          go_wp2_with fail
          with_reducible refine Calls.mono (CC.out _) ?_
          rintro e wf ⟨rfl, hb⟩
          have HF := Lib.hid (Below.andThen HI3.out.base hb)
          clear hb
          go_wp2_with fail
          simp only [Exit.jump]
          go_ret
          exact ⟨rfl, HF.out⟩
      · rw [decide_eq_false (fun e => z0 (.inl e))] at HZ1
        rw [decide_eq_false (fun e => z0 (.inr e))] at HZ2
        have HN := Lib.hid z0
        clear z0
        have k0 := (HI3.out.r0.cell 1).trans (show _ = some (Value.string Y) from by rw [HR.out.2.1.2]; rfl)
        have k1 := (HI3.out.r1.cell 1).trans (show _ = some (Value.string S) from by rw [HR.out.2.2.2]; rfl)
        have c0 := (HI3.out.r0.cell 0).trans (show _ = some (Value.string X) from by rw [HR.out.2.1.1]; rfl)
        have c1' := (HI3.out.r1.cell 0).trans (show _ = some (Value.string Z) from by rw [HR.out.2.2.1]; rfl)
        have f0 := HI3.out.r0.frozen 0
        have f1 := HI3.out.r0.frozen 1
        have f2 := HI3.out.r1.frozen 0
        have f3 := HI3.out.r1.frozen 1
        have l0 := HI3.out.r0.lt
        have l1 := HI3.out.r1.lt
        have d01 := HB.out.1
        go_wp2_with fail
        go_step3
        have hk := HI3.out.turn HH.out HN.out HB.out.1 HB.out.2.1 HB.out.2.2
        obtain ⟨hk, hlt⟩ := hk
        rw [← HR.out.2.2.2, ← HR.out.1.2, ← HR.out.2.1.2, ← HR.out.1.1] at hk
        exact ⟨rfl, t, z % t, y, x % y, _, _, _, _, _, _, _, _, _, _, _, _, _, _, _, _, _, _, _, _, _, _, _, _, _, _, _, _, _, _, _, _, _, _, _, _, _, _, _, _, _, _, _, _, _, _, _, _, _, _, _, _, _, _, _, rfl, hk⟩
    · have hne : ¬ Q1 = Q2 := fun e => h (In.txt_inj (by rw [← HQ.out.1.1, ← HQ.out.1.2, e]))
      have hl : (Q1.toList == Q2.toList) = false := beq_eq_false_iff_ne.2 (fun e => hne (by rw [ByteArray.toList_eq, ByteArray.toList_eq] at e; exact ByteArray.ext (Array.toList_inj.1 e)))
      have CC := Lib.hid (fun W => Compare_any Q1 Q2 W)
      have hc : In.cmpS Q1 Q2 = g := by
        rw [HQ.out.1.1, HQ.out.1.2, In.cmpS_some (In.num_fit (Fit_quo HI3.out.fx)) (In.num_fit (Fit_quo HI3.out.fz)), ← HI3.out.cmp]
        exact (Ra.cmpQ_whole HI3.out.py HI3.out.pt h).symm
      rw [hc] at CC
      clear hc h
      go_wp2_with fail
      with_reducible refine Calls.mono (CC.out _) ?_
      rintro e wf ⟨rfl, hb⟩
      have HF := Lib.hid (Below.andThen HI3.out.base hb)
      clear hb
      go_wp2_with fail
      simp only [Exit.jump]
      go_ret
      exact ⟨rfl, HF.out⟩
  · rintro a' wz ⟨x, y, z, t, u5, u6, u7, u8, u9, u10, u11, u12, u13, u14, u15, u16, u17, u18, u19, u20, u21, u22, u23, u24, u25, u26, u27, u28, u29, u30, u31, u32, u33, u34, u35, u36, u37, u38, u39, u40, u41, u42, u43, u44, u45, u46, u47, u48, u49, u50, u51, u52, u53, u54, u55, u56, u57, u58, u59, rfl, hI⟩
    have HI := Lib.hid hI
    clear hI
    obtain ⟨Q1, hQ1⟩ : ∃ s, s = In.txt (x / y) := ⟨_, rfl⟩
    obtain ⟨Q2, hQ2⟩ : ∃ s, s = In.txt (z / t) := ⟨_, rfl⟩
    obtain ⟨R1, hR1⟩ : ∃ s, s = In.txt (x % y) := ⟨_, rfl⟩
    obtain ⟨R2, hR2⟩ : ∃ s, s = In.txt (z % t) := ⟨_, rfl⟩
    obtain ⟨X, hX⟩ : ∃ s, s = In.txt x := ⟨_, rfl⟩
    obtain ⟨Y, hY⟩ : ∃ s, s = In.txt y := ⟨_, rfl⟩
    obtain ⟨Z, hZ⟩ : ∃ s, s = In.txt z := ⟨_, rfl⟩
    obtain ⟨S, hS⟩ : ∃ s, s = In.txt t := ⟨_, rfl⟩
    have D1 := Lib.hid (fun W T => div_fit HI.out.fx (And.intro HI.out.py HI.out.fy) W T)
    have D2 := Lib.hid (fun W T => div_fit HI.out.fz (And.intro HI.out.pt HI.out.ft) W T)
    have HZ1 := zero_text (x % y)
    have HZ2 := zero_text (z % t)
    rw [← hX, ← hY, ← hQ1, ← hR1] at D1
    rw [← hZ, ← hS, ← hQ2, ← hR2] at D2
    rw [← hR1] at HZ1
    rw [← hR2] at HZ2
    have k0 := (HI.out.r0.cell 0).trans (show _ = some (Value.string X) from by rw [hX]; rfl)
    have k1 := (HI.out.r0.cell 1).trans (show _ = some (Value.string Y) from by rw [hY]; rfl)
    have l0 := HI.out.r0.lt
    have HQ := Lib.hid (And.intro (And.intro hQ1 hQ2) (And.intro (And.intro hR1 hR2) (And.intro (And.intro hX hY) (And.intro hZ hS))))
    clear hQ1 hQ2 hR1 hR2 hX hY hZ hS
    go_wp2_with fail
    with_reducible refine Calls.mono (D1.out _ (TabI.next HT.out HI.out.base)) ?_
    rintro e wd ⟨rfl, hb⟩
    have HI2 := Lib.hid (HI.out.next hb)
    clear hb k0 k1 l0 D1
    have k0 := (HI2.out.r1.cell 0).trans (show _ = some (Value.string Z) from by rw [HQ.out.2.2.2.1]; rfl)
    have k1 := (HI2.out.r1.cell 1).trans (show _ = some (Value.string S) from by rw [HQ.out.2.2.2.2]; rfl)
    have l0 := HI2.out.r1.lt
    go_wp2_with fail
    with_reducible refine Calls.mono (D2.out _ (TabI.next HT.out HI2.out.base)) ?_
    rintro e we ⟨rfl, hb⟩
    have HI3 := Lib.hid (HI2.out.next hb)
    clear hb k0 k1 l0 D2
    by_cases h : x / y = z / t
    · have h12 : Q1 = Q2 := by rw [HQ.out.1.1, HQ.out.1.2, h]
      have HH := Lib.hid h
      clear h
      have HR := Lib.hid HQ.out.2
      clear HQ
      subst h12
      by_cases z0 : x % y = 0 ∨ z % t = 0
      · have CC := Lib.hid (fun W => Compare_any R1 R2 W)
        have hc : In.cmpS R1 R2 = g := by
          rw [HR.out.1.1, HR.out.1.2, In.cmpS_some (In.num_fit (Fit_mod HI3.out.py HI3.out.fy)) (In.num_fit (Fit_mod HI3.out.pt HI3.out.ft)), ← HI3.out.cmp]
          exact (Ra.cmpQ_zero HI3.out.py HI3.out.pt HH.out z0).symm
        rw [hc] at CC
        clear hc
        by_cases z1 : x % y = 0
        · rw [decide_eq_true z1] at HZ1
          clear z0 z1 HZ2
          go_wp2_with fail
          with_reducible refine Calls.mono (CC.out _) ?_
          rintro e wf ⟨rfl, hb⟩
          have HF := Lib.hid (Below.andThen HI3.out.base hb)
          clear hb
          go_wp2_with fail
          simp only [Exit.jump]
          go_ret
          exact ⟨rfl, HF.out⟩
        · rw [decide_eq_false z1] at HZ1
          rw [decide_eq_true (z0.resolve_left z1)] at HZ2
          clear z0 z1
          go_wp2_with fail
          with_reducible refine Calls.mono (CC.out _) ?_
          rintro e wf ⟨rfl, hb⟩
          have HF := Lib.hid (Below.andThen HI3.out.base hb)
          clear hb
          go_wp2_with fail
          simp only [Exit.jump]
          go_ret
          exact ⟨rfl, HF.out⟩
      · rw [decide_eq_false (fun e => z0 (.inl e))] at HZ1
        rw [decide_eq_false (fun e => z0 (.inr e))] at HZ2
        have HN := Lib.hid z0
        clear z0
        have k0 := (HI3.out.r0.cell 1).trans (show _ = some (Value.string Y) from by rw [HR.out.2.1.2]; rfl)
        have k1 := (HI3.out.r1.cell 1).trans (show _ = some (Value.string S) from by rw [HR.out.2.2.2]; rfl)
        have c0 := (HI3.out.r0.cell 0).trans (show _ = some (Value.string X) from by rw [HR.out.2.1.1]; rfl)
        have c1' := (HI3.out.r1.cell 0).trans (show _ = some (Value.string Z) from by rw [HR.out.2.2.1]; rfl)
        have f0 := HI3.out.r0.frozen 0
        have f1 := HI3.out.r0.frozen 1
        have f2 := HI3.out.r1.frozen 0
        have f3 := HI3.out.r1.frozen 1
        have l0 := HI3.out.r0.lt
        have l1 := HI3.out.r1.lt
        have d01 := HB.out.1
        go_wp2_with fail
        go_step3
        have hk := HI3.out.turn HH.out HN.out HB.out.1 HB.out.2.1 HB.out.2.2
        obtain ⟨hk, hlt⟩ := hk
        rw [← HR.out.2.2.2, ← HR.out.1.2, ← HR.out.2.1.2, ← HR.out.1.1] at hk
        refine ⟨rfl, ⟨t, z % t, y, x % y, _, _, _, _, _, _, _, _, _, _, _, _, _, _, _, _, _, _, _, _, _, _, _, _, _, _, _, _, _, _, _, _, _, _, _, _, _, _, _, _, _, _, _, _, _, _, _, _, _, _, _, _, _, _, _, rfl, hk⟩, ?_⟩
        have e1 := denC_row hk.r0 hk.fy
        have e2 := denC_row hk.r1 hk.ft
        have e3 := denC_row HI.out.r0 HI.out.fy
        have e4 := denC_row HI.out.r1 HI.out.ft
        show denC _ b0 + denC _ b1 < denC wz b0 + denC wz b1
        rw [e1, e2, e3, e4]
        omega
    · have hne : ¬ Q1 = Q2 := fun e => h (In.txt_inj (by rw [← HQ.out.1.1, ← HQ.out.1.2, e]))
      have hl : (Q1.toList == Q2.toList) = false := beq_eq_false_iff_ne.2 (fun e => hne (by rw [ByteArray.toList_eq, ByteArray.toList_eq] at e; exact ByteArray.ext (Array.toList_inj.1 e)))
      have CC := Lib.hid (fun W => Compare_any Q1 Q2 W)
      have hc : In.cmpS Q1 Q2 = g := by
        rw [HQ.out.1.1, HQ.out.1.2, In.cmpS_some (In.num_fit (Fit_quo HI3.out.fx)) (In.num_fit (Fit_quo HI3.out.fz)), ← HI3.out.cmp]
        exact (Ra.cmpQ_whole HI3.out.py HI3.out.pt h).symm
      rw [hc] at CC
      clear hc h
      go_wp2_with fail
      with_reducible refine Calls.mono (CC.out _) ?_
      rintro e wf ⟨rfl, hb⟩
      have HF := Lib.hid (Below.andThen HI3.out.base hb)
      clear hb
      go_wp2_with fail
      simp only [Exit.jump]
      go_ret
      exact ⟨rfl, HF.out⟩
end Go.Proofs.YtlehjmanlccncaaGreatDoor
set_option linter.unusedVariables false
set_option linter.unusedSimpArgs false
namespace Go.Proofs.YtlehjmanlccncaaGreatDoor
open Go.RowKit

set_option maxRecDepth 100000 in
set_option maxHeartbeats 8000000 in
theorem Compare_r (ra rb : ByteArray × ByteArray) (w : World) (T : TabI w) :
    Calls Tryz.prog 20 #[ratV ra, ratV rb] w fun e w' => e = .returned (.int .i64 (Ra.cmpO (Ra.val ra) (Ra.val rb))) ∧ Below w.heap.size w w' := by
  have VA := Lib.hid (fun W T => Valid_r ra W T)
  have VB := Lib.hid (fun W T => Valid_r rb W T)
  cases hp : Ra.val ra with
  | some p =>
    cases hq : Ra.val rb with
    | some q => exact Compare_t ra rb p q hp hq w T
    | none =>
      show Calls _ _ _ _ fun e w' => e = .returned (.int .i64 0) ∧ Below w.heap.size w w'
      rw [hp] at VA
      rw [hq] at VB
      have HT := Lib.hid T
      obtain ⟨a1, a2⟩ := ra
      obtain ⟨c1, c2⟩ := rb
      clear T hp hq
      go_enter Tryz.func20, Tryz.ntmps20
      go_wp2
      refine wp_named fun w1 hw => ?_
      obtain ⟨b0, hb0⟩ : ∃ x, x = w.heap.size := ⟨_, rfl⟩
      obtain ⟨b1, hb1⟩ : ∃ x, x = w.heap.size + 1 := ⟨_, rfl⟩
      have R1 : Row w1 b0 23 [.string a1, .string a2] ∧ Row w1 b1 23 [.string c1, .string c2] ∧ Below w.heap.size w w1 := by
        rw [hw, hb0, hb1]
        refine ⟨(Row.new w _ [.string a1, .string a2]).alloc _, ?_, ((Below.refl _ _).alloc (Nat.le_refl _) _).alloc (by simp) _⟩
        have h := Row.new (w.alloc (.cells #[.string a1, .string a2] 23)) 23 [.string c1, .string c2]
        rw [World.size_alloc] at h
        exact h
      rw [← hb1, ← hb0]
      have HR0 := Lib.hid R1
      clear hw R1 hb0 hb1
      go_step3
      have k0 := (HR0.out.1.cell 0).trans (show _ = some (Value.string a1) from rfl)
      have k1 := (HR0.out.1.cell 1).trans (show _ = some (Value.string a2) from rfl)
      have l0 := HR0.out.1.lt
      go_wp2_with fail
      with_reducible refine Calls.mono (VA.out _ (TabI.next HT.out HR0.out.2.2)) ?_
      rintro e w2 ⟨rfl, hb⟩
      have HR1 := Lib.hid (And.intro (HR0.out.1.next hb) (And.intro (HR0.out.2.1.next hb) (Below.andThen HR0.out.2.2 hb)))
      clear hb k0 k1 l0
      have k0 := (HR1.out.2.1.cell 0).trans (show _ = some (Value.string c1) from rfl)
      have k1 := (HR1.out.2.1.cell 1).trans (show _ = some (Value.string c2) from rfl)
      have l0 := HR1.out.2.1.lt
      go_wp2_with fail
      with_reducible refine Calls.mono (VB.out _ (TabI.next HT.out HR1.out.2.2)) ?_
      rintro e w3 ⟨rfl, hb⟩
      have HX := Lib.hid (Below.andThen HR1.out.2.2 hb)
      clear hb k0 k1 l0
      go_wp2_with fail
      try rw [Exit.noGoto_ret]
      go_ret
      exact ⟨rfl, HX.out⟩
  | none =>
    have e0 : Ra.cmpO none (Ra.val rb) = 0 := rfl
    rw [e0]
    rw [hp] at VA
    have HT := Lib.hid T
    obtain ⟨a1, a2⟩ := ra
    obtain ⟨c1, c2⟩ := rb
    clear T hp e0
    go_enter Tryz.func20, Tryz.ntmps20
    go_wp2
    refine wp_named fun w1 hw => ?_
    obtain ⟨b0, hb0⟩ : ∃ x, x = w.heap.size := ⟨_, rfl⟩
    obtain ⟨b1, hb1⟩ : ∃ x, x = w.heap.size + 1 := ⟨_, rfl⟩
    have R1 : Row w1 b0 23 [.string a1, .string a2] ∧ Row w1 b1 23 [.string c1, .string c2] ∧ Below w.heap.size w w1 := by
      rw [hw, hb0, hb1]
      refine ⟨(Row.new w _ [.string a1, .string a2]).alloc _, ?_, ((Below.refl _ _).alloc (Nat.le_refl _) _).alloc (by simp) _⟩
      have h := Row.new (w.alloc (.cells #[.string a1, .string a2] 23)) 23 [.string c1, .string c2]
      rw [World.size_alloc] at h
      exact h
    rw [← hb1, ← hb0]
    have HR0 := Lib.hid R1
    clear hw R1 hb0 hb1
    go_step3
    have k0 := (HR0.out.1.cell 0).trans (show _ = some (Value.string a1) from rfl)
    have k1 := (HR0.out.1.cell 1).trans (show _ = some (Value.string a2) from rfl)
    have l0 := HR0.out.1.lt
    go_wp2_with fail
    with_reducible refine Calls.mono (VA.out _ (TabI.next HT.out HR0.out.2.2)) ?_
    rintro e w2 ⟨rfl, hb⟩
    have HX := Lib.hid (Below.andThen HR0.out.2.2 hb)
    clear hb k0 k1 l0
    go_wp2_with fail
    try rw [Exit.noGoto_ret]
    go_ret
    exact ⟨rfl, HX.out⟩
end Go.Proofs.YtlehjmanlccncaaGreatDoor
