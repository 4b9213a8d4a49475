/- For every input, DiskTwins returns true and leaves its arguments as they were. -/
import Derived.Test.YtgmghfgcpjpigaaDiskFrame
import Derived.Deep.RegionHeld3
namespace Go.Proofs.Ytgmghfgcpjpigaa
open Go.RowKit Go.ChangeShapes Go.WideShapes Go.ChangeAt

/-- Three disks that share no block, and a row that is none of theirs. -/
def Tri (W0 w : World) (C A D n : Nat) (s1 s2 s3 : DS) (lw : Nat) (row : List Value) : Prop := ∃ F1 F2 F3, On W0 w F1 C n s1 ∧ On W0 w F2 A n s2 ∧ On W0 w F3 D n s3 ∧ (∀ k, F1 k → ¬ F2 k) ∧ (∀ k, F1 k → ¬ F3 k) ∧ (∀ k, F2 k → ¬ F3 k) ∧
  Row w lw 53 row ∧ ¬ F1 lw ∧ ¬ F2 lw ∧ ¬ F3 lw
def Tri0 (W0 w : World) (C A D n : Nat) (s1 s2 s3 : DS) : Prop := ∃ F1 F2 F3, On W0 w F1 C n s1 ∧ On W0 w F2 A n s2 ∧ On W0 w F3 D n s3 ∧ (∀ k, F1 k → ¬ F2 k) ∧ (∀ k, F1 k → ¬ F3 k) ∧ (∀ k, F2 k → ¬ F3 k)
section
variable {W0 w w' : World} {C A D n lw : Nat} {s1 s2 s3 s1' : DS} {row : List Value}
theorem Tri.swap12 (h : Tri W0 w C A D n s1 s2 s3 lw row) : Tri W0 w A C D n s2 s1 s3 lw row := by
  obtain ⟨F1, F2, F3, o1, o2, o3, d12, d13, d23, r, n1, n2, n3⟩ := h
  exact ⟨F2, F1, F3, o2, o1, o3, fun k h2 h1 => d12 k h1 h2, d23, d13, r, n2, n1, n3⟩
theorem Tri.swap13 (h : Tri W0 w C A D n s1 s2 s3 lw row) : Tri W0 w D A C n s3 s2 s1 lw row := by
  obtain ⟨F1, F2, F3, o1, o2, o3, d12, d13, d23, r, n1, n2, n3⟩ := h
  exact ⟨F3, F2, F1, o3, o2, o1, fun k h3 h2 => d23 k h2 h3, fun k h3 h1 => d13 k h1 h3, fun k h2 h1 => d12 k h1 h2, r, n3, n2, n1⟩
theorem Tri.drop (h : Tri W0 w C A D n s1 s2 s3 lw row) : Tri0 W0 w C A D n s1 s2 s3 := by
  obtain ⟨F1, F2, F3, o1, o2, o3, d12, d13, d23, _⟩ := h
  exact ⟨F1, F2, F3, o1, o2, o3, d12, d13, d23⟩
theorem Tri.drew (h : Tri W0 w C A D n s1 s2 s3 lw row) : Tri W0 w.drew C A D n s1 s2 s3 lw row := by
  obtain ⟨F1, F2, F3, o1, o2, o3, d12, d13, d23, r, n1, n2, n3⟩ := h
  exact ⟨F1, F2, F3, o1.next (Below.refl _ _).drew, o2.next (Below.refl _ _).drew, o3.next (Below.refl _ _).drew, d12, d13, d23, r.drew, n1, n2, n3⟩
theorem Tri.below (h : Tri W0 w C A D n s1 s2 s3 lw row) : Below W0.heap.size W0 w := by obtain ⟨_, _, _, o1, _⟩ := h; exact o1.below
theorem Tri.cells {v0 v1 v2 : Value} (h : Tri W0 w C A D n s1 s2 s3 lw [v0, v1, v2]) : w.cell? ⟨lw, 0, none⟩ = some v0 ∧ w.cell? ⟨lw, 1, none⟩ = some v1 ∧ w.cell? ⟨lw, 2, none⟩ = some v2 := by
  obtain ⟨_, _, _, _, _, _, _, _, _, r, _⟩ := h
  exact ⟨r.cell 0, r.cell 1, r.cell 2⟩
theorem Tri0.next (h : Tri0 W0 w C A D n s1 s2 s3) (hb : Below w.heap.size w w') : Tri0 W0 w' C A D n s1 s2 s3 := by
  obtain ⟨F1, F2, F3, o1, o2, o3, d⟩ := h
  exact ⟨F1, F2, F3, o1.next hb, o2.next hb, o3.next hb, d⟩
theorem Tri0.with (h : Tri0 W0 w C A D n s1 s2 s3) (row : List Value) : Tri W0 (w.alloc (.cells row.toArray 53)) C A D n s1 s2 s3 w.heap.size row := by
  obtain ⟨F1, F2, F3, o1, o2, o3, d12, d13, d23⟩ := h
  have hb : Below w.heap.size w (w.alloc (.cells row.toArray 53)) := (Below.refl _ _).alloc (Nat.le_refl _) _
  exact ⟨F1, F2, F3, o1.next hb, o2.next hb, o3.next hb, d12, d13, d23, Row.new _ _ _, fun h => absurd (o1.disk.lt _ h) (Nat.lt_irrefl _), fun h => absurd (o2.disk.lt _ h) (Nat.lt_irrefl _), fun h => absurd (o3.disk.lt _ h) (Nat.lt_irrefl _)⟩
/-- A call on the first of them leaves the others as they were. -/
theorem Tri.step {f : FuncId} {args : Array Value} {v : Value} (h : Tri W0 w C A D n s1 s2 s3 lw row) (hc : ∀ F, Disk w F C n s1 → Calls Try.prog f args w fun e w' => e = .returned v ∧ DStep w w' F C n s1') :
    Calls Try.prog f args w fun e w' => e = .returned v ∧ Tri W0 w' C A D n s1' s2 s3 lw row := by
  obtain ⟨F1, F2, F3, o1, o2, o3, d12, d13, d23, r, n1, n2, n3⟩ := h
  refine (hc F1 o1.disk).mono fun e w' ⟨he, hS⟩ => ⟨he, ?_⟩
  obtain ⟨F', O', hO, hF⟩ := On.step o1 hS
  exact ⟨F', F2, F3, O', o2.only hO d12 o1.mine, o3.only hO d13 o1.mine, fun k hk h2 => (hF k hk).elim (fun h1 => d12 k h1 h2) (fun hz => absurd (o2.disk.lt k h2) (by omega)),
    fun k hk h3 => (hF k hk).elim (fun h1 => d13 k h1 h3) (fun hz => absurd (o3.disk.lt k h3) (by omega)), d23, hO.row r n1, still hF r.lt n1, n2, n3⟩
theorem Tri.step2 {f : FuncId} {args : Array Value} {v : Value} {s2' : DS} (h : Tri W0 w C A D n s1 s2 s3 lw row) (hc : ∀ F, Disk w F A n s2 → Calls Try.prog f args w fun e w' => e = .returned v ∧ DStep w w' F A n s2') :
    Calls Try.prog f args w fun e w' => e = .returned v ∧ Tri W0 w' C A D n s1 s2' s3 lw row := (h.swap12.step hc).mono fun _ _ ⟨he, k⟩ => ⟨he, k.swap12⟩
theorem Tri.step3 {f : FuncId} {args : Array Value} {v : Value} {s3' : DS} (h : Tri W0 w C A D n s1 s2 s3 lw row) (hc : ∀ F, Disk w F D n s3 → Calls Try.prog f args w fun e w' => e = .returned v ∧ DStep w w' F D n s3') :
    Calls Try.prog f args w fun e w' => e = .returned v ∧ Tri W0 w' C A D n s1 s2 s3' lw row := (h.swap13.step hc).mono fun _ _ ⟨he, k⟩ => ⟨he, k.swap13⟩
end
/-- what a write that fits leaves of a disk with power and without a scheduled cut -/
def wrote (s : DS) (q : Nat) (t : ByteArray) : DS := { s with pend := s.pend ++ [(q, t)], vis := over s.vis q t.data.toList }
def synced (s : DS) : DS := { s with sure := s.vis, pend := [] }
theorem write_tri {w : World} {D n q : Nat} {s : DS} {t : ByteArray} (ho : s.off = false) (ha : s.after = 0) (hp : s.pend.length ≤ 1000) (hf : q + t.size ≤ n) (hn : n ≤ 100) (F : Nat → Prop) (h : Disk w F D n s) :
    Calls Try.prog 21 #[at_ D, .int .i64 q, .string t] w fun e w' => e = .returned (.int .i64 0) ∧ DStep w w' F D n (wrote s q t) := by
  obtain ⟨h1, h2⟩ := write_plain h.good.1 ho ha hf
  have := write_any D n F s q t w h (by omega) (by unfold maxLen; omega) (by omega)
  rw [h1, h2] at this
  exact this
theorem sync_tri {w : World} {D n : Nat} {s : DS} (ho : s.off = false) (F : Nat → Prop) (h : Disk w F D n s) :
    Calls Try.prog 23 #[at_ D] w fun e w' => e = .returned (.int .i64 0) ∧ DStep w w' F D n (synced s) := by
  obtain ⟨h1, h2⟩ := sync_plain ho
  have := sync_any D n F s w h
  rw [h1, h2] at this
  exact this

set_option maxRecDepth 100000 in
set_option maxHeartbeats 4000000 in
theorem twins_any (z : Int) (o : Option Addr) (len cap : Nat) (L : Nat → Int × ByteArray × Bool) (w : World) (bz : -9223372036854775808 ≤ z ∧ z ≤ 9223372036854775807) (_ : len ≤ maxLen)
    (b1 : ∀ i, i < len → -9223372036854775808 ≤ (L i).1 ∧ (L i).1 ≤ 9223372036854775807 ∧ (L i).2.1.size ≤ maxLen)
    (b2 : ∀ i, i < len → ∃ a, o = some a ∧ ∀ w', Below w.heap.size w w' → w'.cell? (a.add (i * 3)) = some (.int .i64 (L i).1) ∧ w'.cell? ⟨(a.add (i * 3)).block, (a.add (i * 3)).off + 1, none⟩ = some (.string (L i).2.1) ∧ w'.cell? ⟨(a.add (i * 3)).block, (a.add (i * 3)).off + 2, none⟩ = some (.bool (L i).2.2)) :
    Calls Try.prog 11 #[.int .i64 z, .slice o len cap] w fun r w' => r = .returned (.bool true) ∧ Below w.heap.size w w' := by
  have HB1 := Lib.hid b1
  have HB2 := Lib.hid b2
  have pb := pick_bd z 100 (by omega)
  obtain ⟨n, en⟩ : ∃ n : Nat, (n : Int) = 1 + pickZ z 100 := ⟨(1 + pickZ z 100).toNat, by omega⟩
  have CP := Lib.hid (fun w => pick_any z 100 w (by omega) bz.1 bz.2)
  have n1 : 1 ≤ n := by omega
  have n2 : n ≤ 100 := by omega
  have EN := Lib.hid en
  obtain ⟨pb1, pb2⟩ := pb
  clear b1 b2 en
  go_enter Try.func11, Try.ntmps11
  go_wp2_with fail
  refine (sane_any _).mono ?_
  rintro e w1 ⟨rfl, hb⟩
  have HB := Lib.hid hb
  clear hb
  go_upto_region 2 with (fail)
  go_cut [0] (fun v wx => v = .int .i64 n ∧ wx = w1)
  case first =>
    go_wp2_with fail
    refine (CP.out _).mono ?_
    rintro e w2 ⟨rfl, rfl⟩
    go_wp2_with fail
    go_meet
    exact ⟨congrArg (Value.int .i64) EN.out.symm, rfl⟩
  obtain ⟨rfl, rfl⟩ := hcut
  rename World => w1
  clear pb1 pb2
  go_wp2_with fail
  refine (new_any n w1 n1 (by omega)).mono ?_
  rintro e w2 ⟨C, FC, rfl, hb, hD, hF⟩
  have OC := Lib.hid (On.new HB.out hb hD hF)
  clear hb hD hF
  go_wp2_with fail
  refine (new_any n w2 n1 (by omega)).mono ?_
  rintro e w3 ⟨D, FD, rfl, hb, hD, hF⟩
  have OD := Lib.hid (On.new OC.out.below hb hD hF)
  have OC3 := Lib.hid (OC.out.next hb)
  have d1 := Lib.hid (show ∀ k, FC k → ¬ FD k from fun k h1 h2 => absurd (OC.out.disk.lt k h1) (Nat.not_lt.2 (hF k h2)))
  clear hb hD hF OC
  go_wp2_with fail
  refine (new_any n w3 n1 (by omega)).mono ?_
  rintro e w4 ⟨A, FA, rfl, hb, hD, hF⟩
  have T0 := Lib.hid (show Tri0 w w4 C A D n (DS.fresh n) (DS.fresh n) (DS.fresh n) from ⟨FC, FA, FD, OC3.out.next hb, On.new OD.out.below hb hD hF, OD.out.next hb,
    fun k h1 h2 => absurd (OC3.out.disk.lt k h1) (Nat.not_lt.2 (hF k h2)), d1.out, fun k h2 h3 => absurd (OD.out.disk.lt k h3) (Nat.not_lt.2 (hF k h2))⟩)
  clear hb hD hF OC3 OD d1 HB
  go_wp2_with fail
  go_loopw [12] (fun i wr => ∃ (k : Nat) (s sd : DS), k ≤ 30 ∧ i = .int .i64 k ∧ Tri0 w wr C A D n s s sd ∧ s.off = false ∧ s.after = 0 ∧ s.pend.length ≤ k ∧ sd.off = false ∧ sd.after = 0 ∧ sd.pend.length ≤ k) (fun i _ => 30 - (intOf i).toNat)
  case atStart => exact ⟨0, _, _, by omega, rfl, T0.out, rfl, rfl, Nat.le_refl _, rfl, rfl, Nat.le_refl _⟩
  case round =>
    clear T0
    obtain ⟨k, s, sd, hk, rfl, hT, P⟩ := hrel
    have O := Lib.hid hT
    have P := Lib.hid P
    by_cases hgo : k < len ∧ k < 30
    · obtain ⟨hl, h60⟩ := hgo
      have hbl : Below w.heap.size w wr := by obtain ⟨_, _, _, o1, _⟩ := hT; exact o1.below
      obtain ⟨ad, rfl, hc⟩ := HB2.out k hl
      obtain ⟨x0, x1, x2⟩ := HB1.out k hl
      obtain ⟨c0, c1, c2⟩ := hc wr hbl
      obtain ⟨⟨z0, s0, y0⟩, eL⟩ : ∃ q, q = L k := ⟨_, rfl⟩
      rw [← eL] at x0 x1 x2 c0 c1 c2
      clear hc eL
      dsimp only at x0 x1 x2 c0 c1 c2
      go_wp2_with fail
      refine (fits_any z0 s0 y0 n wr ⟨x0, x1⟩ x2 (by omega)).mono ?_
      rintro e w3 ⟨rfl, hb⟩
      have O3 := Lib.hid (O.out.next hb)
      have HF := Lib.hid (fit_ok z0 s0 n)
      have hq := fitO_le z0 n
      generalize fitO z0 n = q at *
      generalize fitS z0 s0 n = t at *
      have tq : t.size ≤ 100 := by have := HF.out; omega
      clear hb hbl hT c0 c1 c2 x0 x1 x2 O
      have T4 := Lib.hid (O3.out.with [.int .i64 q, .string t, .bool y0])
      obtain ⟨lw, el⟩ : ∃ lw, lw = w3.heap.size := ⟨_, rfl⟩
      obtain ⟨w4', ew⟩ : ∃ w4', w4' = w3.alloc (.cells #[.int .i64 q, .string t, .bool y0] 53) := ⟨_, rfl⟩
      have T4 := Lib.hid (show Tri w w4' C A D n s s sd lw [.int .i64 q, .string t, .bool y0] by rw [ew, el]; exact T4.out)
      by_cases hodd : (k : Int) % 2 = 1
      · obtain ⟨hq1, hq2⟩ := (And.intro h60 hl)
        go_wp2_with fail
        rw [← ew, ← el]
        refine (T4.out.step3 (fun F hF => write_tri P.out.2.2.2.1 P.out.2.2.2.2.1 (by have := P.out; omega) HF.out n2 F hF)).mono ?_
        rintro e w5 ⟨rfl, hT⟩
        have T5 := Lib.hid hT
        obtain ⟨k0, k1, k2⟩ := hT.cells
        clear hT T4 O3 ew el
        cases y0
        · by_cases h7 : (q : Int) % 7 = 3
          · go_wp2_with fail
            refine (T5.out.step3 (fun F hF => crash_any D n F _ none [] 0 1 _ hF (by have := P.out; simp [wrote]; omega) (by simp) (fun i hi => absurd hi (Nat.not_lt_zero _)) (by omega))).mono ?_
            rintro e w8 ⟨rfl, hT⟩
            have T8 := Lib.hid hT
            clear hT
            go_wp2_with fail
            go_roundw
            case rel =>
              obtain ⟨p1, p2, p3, p4, p5, p6⟩ := P.out
              exact ⟨k + 1, s, (DS.crashS (wrote sd q t) [] 1), by omega, by go_num, T8.out.drop, p1, p2, by omega, rfl, rfl, Nat.zero_le _⟩
            case measure => simp [intOf]; omega
          · go_wp2_with fail
            go_roundw
            case rel =>
              obtain ⟨p1, p2, p3, p4, p5, p6⟩ := P.out
              exact ⟨k + 1, s, (wrote sd q t), by omega, by go_num, T5.out.drop, p1, p2, by omega, p4, p5, by simp [wrote]; omega⟩
            case measure => simp [intOf]; omega
        · go_wp2_with fail
          refine (T5.out.step3 (fun F hF => sync_tri (show (wrote sd q t).off = false from P.out.2.2.2.1) F hF)).mono ?_
          rintro e w6 ⟨rfl, hT⟩
          have T6 := Lib.hid hT
          clear k0 k1 k2 T5
          obtain ⟨k0, k1, k2⟩ := hT.cells
          clear hT
          by_cases h7 : (q : Int) % 7 = 3
          · go_wp2_with fail
            refine (T6.out.step3 (fun F hF => crash_any D n F _ none [] 0 1 _ hF (by simp [synced]) (by simp) (fun i hi => absurd hi (Nat.not_lt_zero _)) (by omega))).mono ?_
            rintro e w8 ⟨rfl, hT⟩
            have T8 := Lib.hid hT
            clear hT
            go_wp2_with fail
            go_roundw
            case rel =>
              obtain ⟨p1, p2, p3, p4, p5, p6⟩ := P.out
              exact ⟨k + 1, s, (DS.crashS (synced (wrote sd q t)) [] 1), by omega, by go_num, T8.out.drop, p1, p2, by omega, rfl, rfl, Nat.zero_le _⟩
            case measure => simp [intOf]; omega
          · go_wp2_with fail
            go_roundw
            case rel =>
              obtain ⟨p1, p2, p3, p4, p5, p6⟩ := P.out
              exact ⟨k + 1, s, (synced (wrote sd q t)), by omega, by go_num, T6.out.drop, p1, p2, by omega, p4, p5, Nat.zero_le _⟩
            case measure => simp [intOf]; omega
      · have X1 := Lib.hid (fun w' (hT : Tri w w' C A D n s s sd lw [.int .i64 q, .string t, .bool y0]) => hT.step (fun F hF => write_tri P.out.1 P.out.2.1 (by have := P.out; omega) HF.out n2 F hF))
        have X2 := Lib.hid (fun w' (hT : Tri w w' C A D n (wrote s q t) s sd lw [.int .i64 q, .string t, .bool y0]) => hT.step2 (fun F hF => write_tri P.out.1 P.out.2.1 (by have := P.out; omega) HF.out n2 F hF))
        have Y1 := Lib.hid (fun w' (hT : Tri w w' C A D n (wrote s q t) (wrote s q t) sd lw [.int .i64 q, .string t, .bool y0]) => hT.step (fun F hF => sync_tri (show (wrote s q t).off = false from P.out.1) F hF))
        have Y2 := Lib.hid (fun w' (hT : Tri w w' C A D n (synced (wrote s q t)) (wrote s q t) sd lw [.int .i64 q, .string t, .bool y0]) => hT.step2 (fun F hF => sync_tri (show (wrote s q t).off = false from P.out.1) F hF))
        go_wp2_with fail
        rw [← ew, ← el]
        obtain ⟨k0, k1, k2⟩ := T4.out.cells
        have hT4 := T4.out.drew
        clear T4 O3 ew el
        cases y0
        · first | (go_region_held (fun w' => w'.cell? ⟨lw, 0, none⟩ = some (.int .i64 q) ∧ w'.cell? ⟨lw, 1, none⟩ = some (.string t) ∧ w'.cell? ⟨lw, 2, none⟩ = some (.bool false)) (first | exact ⟨by assumption, by assumption, by assumption⟩ | go_keep) (first | (go_at_call 21; with_reducible refine Calls.mono (X1.out _ (by assumption)) ?_; rintro e wx ⟨rfl, hTx⟩; obtain ⟨m0, m1, m2⟩ := hTx.cells) | (go_at_call 21; with_reducible refine Calls.mono (X2.out _ (by assumption)) ?_; rintro e wx ⟨rfl, hTx⟩; obtain ⟨m0, m1, m2⟩ := hTx.cells) | (go_at_call 23; with_reducible refine Calls.mono (Y1.out _ (by assumption)) ?_; rintro e wx ⟨rfl, hTx⟩; obtain ⟨m0, m1, m2⟩ := hTx.cells) | (go_at_call 23; with_reducible refine Calls.mono (Y2.out _ (by assumption)) ?_; rintro e wx ⟨rfl, hTx⟩; obtain ⟨m0, m1, m2⟩ := hTx.cells))) | fail
          all_goals
            go_wp2_with fail
            go_roundw
            case rel =>
              obtain ⟨p1, p2, p3, p4, p5, p6⟩ := P.out
              exact ⟨k + 1, (wrote s q t), sd, by omega, by go_num, (by assumption : Tri w _ C A D n _ _ sd lw _).drop, p1, p2, by simp [wrote]; omega, p4, p5, by omega⟩
            case measure => simp [intOf]; omega
        · first | (go_region_held3 (fun w' => w'.cell? ⟨lw, 0, none⟩ = some (.int .i64 q) ∧ w'.cell? ⟨lw, 1, none⟩ = some (.string t) ∧ w'.cell? ⟨lw, 2, none⟩ = some (.bool true)) (first | exact ⟨by assumption, by assumption, by assumption⟩ | go_keep) (first | (go_at_call 21; with_reducible refine Calls.mono (X1.out _ (by assumption)) ?_; rintro e wx ⟨rfl, hTx⟩; obtain ⟨m0, m1, m2⟩ := hTx.cells) | (go_at_call 21; with_reducible refine Calls.mono (X2.out _ (by assumption)) ?_; rintro e wx ⟨rfl, hTx⟩; obtain ⟨m0, m1, m2⟩ := hTx.cells) | (go_at_call 23; with_reducible refine Calls.mono (Y1.out _ (by assumption)) ?_; rintro e wx ⟨rfl, hTx⟩; obtain ⟨m0, m1, m2⟩ := hTx.cells) | (go_at_call 23; with_reducible refine Calls.mono (Y2.out _ (by assumption)) ?_; rintro e wx ⟨rfl, hTx⟩; obtain ⟨m0, m1, m2⟩ := hTx.cells))) | fail
          all_goals
            go_wp2_with fail
            go_roundw
            case rel =>
              obtain ⟨p1, p2, p3, p4, p5, p6⟩ := P.out
              exact ⟨k + 1, (synced (wrote s q t)), sd, by omega, by go_num, (by assumption : Tri w _ C A D n _ _ sd lw _).drop, p1, p2, Nat.zero_le _, p4, p5, by omega⟩
            case measure => simp [intOf]; omega
    · have hgo' : ¬ (k : Int) < len ∨ ((k : Int) < len ∧ ¬ (k : Int) < 30) := by omega
      clear hgo
      obtain ⟨FC, FA, FD, oC, oA, _, _, _, _⟩ := hT
      have OC := Lib.hid oC
      have OA := Lib.hid oA
      have tx := Lib.hid (read_plain oC.disk.good.1 P.out.1)
      clear oC oA O
      rcases hgo' with hl | ⟨hl, h60⟩
      all_goals
        go_wp2_with fail
        refine (read_any C n _ _ 0 n _ OC.out.disk (by omega) (by omega)).mono ?_
        rintro e w8 ⟨rfl, rfl⟩
        rw [tx.out.1, tx.out.2]
        go_wp2_with fail
        refine (read_any A n _ _ 0 n _ OA.out.disk (by omega) (by omega)).mono ?_
        rintro e w8 ⟨rfl, rfl⟩
        rw [tx.out.1, tx.out.2]
        go_wp2_with fail
        refine (pending_of C n _ _ _ OC.out.disk).mono ?_
        rintro e w8 ⟨rfl, rfl⟩
        go_wp2_with fail
        refine (pending_of A n _ _ _ OA.out.disk).mono ?_
        rintro e w8 ⟨rfl, rfl⟩
        go_wp2
        go_ret
        exact ⟨rfl, OC.out.below⟩
namespace diskTwins
set_option maxRecDepth 100000 in
theorem contract (H : Type) (enc : TypeId × Value → H) (W : World) (base : Nat) (args : Array Value) (ds gs : List (DataW H)) (before : List MemPlace)
    (hval : ∀ (j : Nat) t v, Try.f11.params[j]? = some t → args[j]? = some v → Value.okWide Try.prog W .any base t v)
    (hW : DataW.Whole enc Try.prog Try.f11.params.toList Rows.diskTwinsSpec.vars false W args.toList ds gs before) (_hL : laidMetH Try.prog Rows.diskTwinsRow.laid W) :
    Calls Try.prog 11 args W fun e W' => ∃ v, e = .returned v ∧ Rows.diskTwinsSpec.post enc Try.prog Try.f11 false true false false W args v W' := by
  have hW' := hW
  obtain ⟨p, q, hA0, hV, rfl, hfz, hnd⟩ := hW
  have hA : DataW.TrodAll enc Try.prog W 0 (fun _ => true) true Try.f11.params.toList args.toList ds p := hA0
  rw [Try.params11] at hA hval
  obtain ⟨v0, vs0, d0, ds0, p0, q0, hargs, rfl, rfl, h0, r0⟩ := trodAll_cons hA
  obtain ⟨v1, vs1, d1, ds1, p1, q1, rfl, rfl, rfl, h1, r1⟩ := trodAll_cons r0
  obtain ⟨rfl, rfl, rfl⟩ := trodAll_nil r1
  obtain rfl : args = #[v0, v1] := by cases args; simp_all
  obtain ⟨a0, rfl, rfl, rfl, k0⟩ := open_int Try.underlying3 (hval 0 _ _ rfl rfl) h0
  obtain ⟨oa1, la1, ca1, a1, rfl, ma1, k1, ga1⟩ := open_isbS Try.underlying51 (by kernel_rfl) (by kernel_rfl) (hval 1 _ _ rfl rfl) h1
  refine (twins_any a0 oa1 la1 ca1 a1 W (bd_i64 k0) ma1 k1 ga1).mono fun e W' ⟨he, hb⟩ => ?_
  subst he
  obtain ⟨rfl, _⟩ := trodVars_none hV
  exact ⟨_, rfl, law_post laidOut (by kernel_rfl) rfl (by kernel_rfl) Try.underlying4 hW' rfl hb⟩

def args0 : Array Value := #[.int .i64 0, .slice none 0 0]
theorem laid_met (os : Os) : laidMet Try.prog Rows.diskTwinsRow.laid ((laidWorld os).forCall (fun _ _ => 0) ⟨#[], args0, []⟩).memory :=
  laidMet_of_run' 8 (by kernel_rfl) (by kernel_rfl)
theorem reads (os : Os) {H : Type} (enc : TypeId × Value → H) : ∃ places, DataW.whole enc Try.prog ((laidWorld os).forCall (fun _ _ => 0) ⟨#[], args0, []⟩).memory Try.f11.params.toList Rows.diskTwinsSpec.vars false args0.toList 8 = some ([.lit (.int .i64 0), .nil], [], places) :=
  ⟨[], by kernel_rfl⟩

set_option maxRecDepth 100000 in
theorem lifted (os : Os) (started : os.Started) (H : Type) (enc : TypeId × Value → H) (F : Stop.Interp) :
    ReturnsInHanded {} Try.checked os 11 .any ((OpenSpec.ofChange Rows.diskTwinsSpec).preRow enc Try.prog Try.f11 Rows.diskTwinsRow.domain false Rows.diskTwinsRow.laid) (((OpenSpec.ofChange Rows.diskTwinsSpec).at F).post enc Try.prog Try.f11 false true false false) := by
  obtain ⟨places, hx⟩ := reads os enc
  refine returnsInHanded_of_row (C := Try.checked) (s := OpenSpec.ofChange Rows.diskTwinsSpec) own started (by kernel_rfl) Try.func11
    (witness_row_at (enc := enc) (C := Try.checked) false (laidWorld os) args0 rfl (by kernel_rfl) (by kernel_rfl) (by kernel_rfl)
      (OpenSpec.preRow_of_cond 8 hx (by kernel_rfl) (fun k hk => by cases hk) (by kernel_rfl) (laid_met os))) ?_
  intro W base args ds gs before hval hW _ _ _ hL _ _
  exact contract H enc W base args ds gs before hval hW hL

theorem said : Rows.DiskTwinsSaid :=
  OpenClaim.holds_of_cond 11 Try.f11 rfl rfl rfl rfl rfl rfl rfl ⟨rfl, rfl, rfl, rfl, rfl⟩ rfl rfl rfl rfl rfl (by kernel_rfl) Try.func11 (by kernel_rfl)
    (of_decide_eq_true (by kernel_rfl)) (by unfold Func.isWrapper; first | (rw [if_pos (by decide +kernel)]; kernel_rfl) | (rw [if_neg (by decide +kernel)]; exact ⟨rfl, rfl⟩))
    (fun os started H enc _ F => by rw [OpenClaim.pre_eq_preRow]; exact lifted os started H enc F)

end diskTwins
end Go.Proofs.Ytgmghfgcpjpigaa
