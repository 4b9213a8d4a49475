/- SHA-256: the rounds. -/
import Derived.Test.YtnhlhoijajhcjaaDoorDigC
set_option linter.unusedVariables false
set_option linter.unusedSimpArgs false
set_option linter.unnecessarySimpa false
namespace Go.Proofs.YtnhlhoijajhcjaaDoor
open Go.RowKit

/-- the constants of the rounds -/
structure Tab (w : World) : Prop where
  size : 0 < w.heap.size
  cell : ∀ i : Nat, i < 64 → w.cell? ⟨0, i, none⟩ = some (.int .u32 ((Sha.K.getD i 0 : Nat) : Int))
theorem Tab.below {w w' : World} {B : Nat} (h : Tab w) (hb : Below B w w') (hB : 0 < B) : Tab w' :=
  ⟨Nat.lt_of_lt_of_le h.size hb.size, fun i hi => (hb.cell (p := ⟨0, i, none⟩) hB).trans (h.cell i hi)⟩
theorem Tab.next {w w' : World} (h : Tab w) (hb : Below w.heap.size w w') : Tab w' := h.below hb h.size
theorem K_lt : ∀ i : Nat, Sha.K.getD i 0 < 2 ^ 32 := by
  intro i
  rcases Nat.lt_or_ge i 64 with h | h
  · have : ∀ i : Fin 64, Sha.K.getD i.val 0 < 2 ^ 32 := by decide
    exact this ⟨i, h⟩
  · rw [List.getD_eq_getElem?_getD, List.getElem?_eq_none (by simpa [Sha.K] using h)]
    decide

theorem and_lt32 {a b : Nat} (hb : b < 2 ^ 32) : a &&& b < 2 ^ 32 := Nat.and_lt_two_pow _ hb
theorem big1_eq {e : Nat} (he : e < 2 ^ 32) : turnedN e [6, 11, 25] = Sha.big1 e ∧ Sha.big1 e < 2 ^ 32 := by
  have h : turnedN e [6, 11, 25] = Sha.big1 e := by simp [turnedN, Sha.big1]
  exact ⟨h, h ▸ turnedN_lt e he _⟩
theorem big0_eq {e : Nat} (he : e < 2 ^ 32) : turnedN e [2, 13, 22] = Sha.big0 e ∧ Sha.big0 e < 2 ^ 32 := by
  have h : turnedN e [2, 13, 22] = Sha.big0 e := by simp [turnedN, Sha.big0]
  exact ⟨h, h ▸ turnedN_lt e he _⟩
theorem ch_eq {e f g : Nat} (he : e < 2 ^ 32) (hf : f < 2 ^ 32) (hg : g < 2 ^ 32) : bits BinOp.xor .u32 (bits BinOp.and .u32 (e : Int) (f : Int)) (bits BinOp.and .u32 (bits BinOp.xor .u32 IntKind.u32.max (e : Int)) (g : Int)) = ((Sha.ch e f g : Nat) : Int) ∧ Sha.ch e f g < 2 ^ 32 := by
  have h0 : IntKind.u32.max = ((4294967295 : Nat) : Int) := rfl
  have h1 : 4294967295 ^^^ e = 4294967295 - e := by
    apply Nat.eq_of_testBit_eq
    intro i
    rw [show (4294967295 : Nat) = 2 ^ 32 - 1 from rfl, show 2 ^ 32 - 1 - e = 2 ^ 32 - (e + 1) by omega, Nat.testBit_two_pow_sub_succ he, Nat.testBit_xor, Nat.testBit_two_pow_sub_one]
    by_cases hi : i < 32
    · simp [hi]
    · have : e.testBit i = false := Nat.testBit_lt_two_pow (Nat.lt_of_lt_of_le he (Nat.pow_le_pow_right (by decide) (by omega)))
      simp [hi, this]
  rw [h0, xor32 (by decide) he, h1, and32 he hf, and32 (by omega) hg, xor32 (and_lt32 hf) (and_lt32 hg)]
  exact ⟨rfl, Nat.xor_lt_two_pow (and_lt32 hf) (and_lt32 hg)⟩
theorem maj_eq {a b c : Nat} (ha : a < 2 ^ 32) (hb : b < 2 ^ 32) (hc : c < 2 ^ 32) : bits BinOp.xor .u32 (bits BinOp.xor .u32 (bits BinOp.and .u32 (a : Int) (b : Int)) (bits BinOp.and .u32 (a : Int) (c : Int))) (bits BinOp.and .u32 (b : Int) (c : Int)) = ((Sha.maj a b c : Nat) : Int) ∧ Sha.maj a b c < 2 ^ 32 := by
  rw [and32 ha hb, and32 ha hc, and32 hb hc, xor32 (and_lt32 hb) (and_lt32 hc), xor32 (Nat.xor_lt_two_pow (and_lt32 hb) (and_lt32 hc)) (and_lt32 hc)]
  exact ⟨rfl, Nat.xor_lt_two_pow (Nat.xor_lt_two_pow (and_lt32 hb) (and_lt32 hc)) (and_lt32 hc)⟩
theorem t1_eq {a b c d e f g z k v : Nat} (he : e < 2 ^ 32) (hf : f < 2 ^ 32) (hg : g < 2 ^ 32) :
    IntKind.u32.wrap (IntKind.u32.wrap (IntKind.u32.wrap (IntKind.u32.wrap ((z : Int) + ((Sha.big1 e : Nat) : Int)) + bits BinOp.xor .u32 (bits BinOp.and .u32 (e : Int) (f : Int)) (bits BinOp.and .u32 (bits BinOp.xor .u32 IntKind.u32.max (e : Int)) (g : Int))) + (k : Int)) + (v : Int)) = ((Sha.t1 ⟨a, b, c, d, e, f, g, z⟩ k v : Nat) : Int) := by
  rw [(ch_eq he hf hg).1]
  simp only [Sha.t1, IntKind.wrap, IntKind.bits, IntKind.signed]
  simp
theorem t2_eq {a b c d e f g z : Nat} (ha : a < 2 ^ 32) (hb : b < 2 ^ 32) (hc : c < 2 ^ 32) :
    IntKind.u32.wrap (((Sha.big0 a : Nat) : Int) + bits BinOp.xor .u32 (bits BinOp.xor .u32 (bits BinOp.and .u32 (a : Int) (b : Int)) (bits BinOp.and .u32 (a : Int) (c : Int))) (bits BinOp.and .u32 (b : Int) (c : Int))) = ((Sha.t2 ⟨a, b, c, d, e, f, g, z⟩ : Nat) : Int) := by
  rw [(maj_eq ha hb hc).1]
  simp only [Sha.t2, IntKind.wrap, IntKind.bits, IntKind.signed]
  simp
/-- turned at three rotations that were just laid -/
theorem turned_three (x k1 k2 k3 b : Nat) (w : World) (hx : x < 2 ^ 32) (hR : Row w b 3 [natV k1, natV k2, natV k3]) (h : ∀ k ∈ [k1, k2, k3], k ∈ [2, 6, 7, 11, 13, 17, 18, 19, 22, 25]) :
    Calls Tryd.prog 85 #[.int .u32 x, .slice (some ⟨b, 0, none⟩) 3 3] w fun e w' => e = .returned (.int .u32 (turnedN x [k1, k2, k3])) ∧ w = w' :=
  turned_any x b 3 [k1, k2, k3] w hx hR (by simp) h
theorem infoState : (Tryd.prog.info? 116).map (·.size) = some 8 := by kernel_rfl

/-- a state as cells -/
def stC (s : Sha.St) : List Value := s.list.map wordV
/-- all words of a state are words -/
def Sha.St.Ok (s : Sha.St) : Prop := ∀ x ∈ s.list, x < 2 ^ 32
theorem Sha.St.Ok.parts {s : Sha.St} (h : s.Ok) : s.a < 2 ^ 32 ∧ s.b < 2 ^ 32 ∧ s.c < 2 ^ 32 ∧ s.d < 2 ^ 32 ∧ s.e < 2 ^ 32 ∧ s.f < 2 ^ 32 ∧ s.g < 2 ^ 32 ∧ s.h < 2 ^ 32 := by
  simpa [Sha.St.Ok, Sha.St.list] using h
theorem Sha.St.Ok.of {s : Sha.St} (h : s.a < 2 ^ 32 ∧ s.b < 2 ^ 32 ∧ s.c < 2 ^ 32 ∧ s.d < 2 ^ 32 ∧ s.e < 2 ^ 32 ∧ s.f < 2 ^ 32 ∧ s.g < 2 ^ 32 ∧ s.h < 2 ^ 32) : s.Ok := by
  simpa [Sha.St.Ok, Sha.St.list] using h

theorem rounds_more (s : Sha.St) (l : List (Nat × Nat)) (p : Nat × Nat) : Sha.rounds s (l ++ [p]) = Sha.round (Sha.rounds s l) p.1 p.2 := by
  induction l generalizing s with
  | nil => rfl
  | cons q l ih => exact ih _
theorem round_ok {s : Sha.St} (h : s.Ok) (k v : Nat) : (Sha.round s k v).Ok := by
  obtain ⟨h1, h2, h3, h4, h5, h6, h7, h8⟩ := h.parts
  exact Sha.St.Ok.of ⟨Nat.mod_lt _ (by decide), h1, h2, h3, Nat.mod_lt _ (by decide), h5, h6, h7⟩
theorem zip_at (ws : List Nat) (hl : ws.length = 64) (j : Nat) (hj : j < 64) : (Sha.K.zip ws).take (j + 1) = (Sha.K.zip ws).take j ++ [(Sha.K.getD j 0, ws[j])] := by
  have hK : Sha.K.length = 64 := rfl
  have hz : j < (Sha.K.zip ws).length := by rw [List.length_zip, hK, hl]; exact hj
  rw [List.take_succ_eq_append_getElem hz]
  congr 2
  rw [List.getElem_zip, List.getD_eq_getElem?_getD, List.getElem?_eq_getElem (by rw [hK]; exact hj)]
  rfl
/-- the first j words of a state added to -/
def addUp (s t : Sha.St) (j : Nat) : List Nat := (List.range 8).map fun i => if i < j then (s.list.getD i 0 + t.list.getD i 0) % 4294967296 else s.list.getD i 0

set_option maxRecDepth 100000 in
set_option maxHeartbeats 4000000 in
theorem mix_any (s : Sha.St) (ws : List Nat) (w : World) (T : Tab w) (hs : s.Ok) (hl : ws.length = 64) (hw : ∀ x ∈ ws, x < 2 ^ 32) :
    Calls Tryd.prog 78 #[.agg (stC s).toArray, .agg (ws.map wordV).toArray] w fun e w' => e = .returned (.agg (stC (Sha.mix s ws)).toArray) ∧ Below w.heap.size w w' := by
  have HT := Lib.hid T
  have HO := Lib.hid hs
  have HW := Lib.hid hw
  clear T hs hw
  obtain ⟨sa, sb, sc, sd, se, sf, sg, sh⟩ := s
  simp only [stC, Sha.St.list, List.map_cons, List.map_nil]
  go_enter Tryd.func78, Tryd.ntmps78
  go_wp2_with fail
  refine wp_named fun w0 hw => ?_
  have K0 : Row w0 w.heap.size 116 [wordV sa, wordV sb, wordV sc, wordV sd, wordV se, wordV sf, wordV sg, wordV sh] ∧ Row w0 (w.heap.size + 1) 122 (ws.map wordV) ∧ Row w0 (w.heap.size + 1 + 1) 116 (List.replicate 8 (Value.int .u32 0)) ∧ Below w.heap.size w w0 := by
    rw [hw]
    refine ⟨((Row.new _ _ _).alloc _).alloc _, ?_, ?_, ?_⟩
    · have := (Row.new (w.alloc (Obj.cells #[wordV sa, wordV sb, wordV sc, wordV sd, wordV se, wordV sf, wordV sg, wordV sh] 116)) 122 (ws.map wordV)).alloc (Obj.cells (List.replicate 8 (Value.int .u32 0)).toArray 116)
      rwa [World.size_alloc] at this
    · have := Row.new ((w.alloc (Obj.cells #[wordV sa, wordV sb, wordV sc, wordV sd, wordV se, wordV sf, wordV sg, wordV sh] 116)).alloc (Obj.cells (ws.map wordV).toArray 122)) 116 (List.replicate 8 (Value.int .u32 0))
      rwa [World.size_alloc, World.size_alloc] at this
    · exact (((Below.refl _ w).alloc (Nat.le_refl _) _).alloc (by simp) _).alloc (by simp; omega) _
  clear hw
  obtain ⟨b0, e0⟩ : ∃ b, b = w.heap.size := ⟨_, rfl⟩
  obtain ⟨b1, e1⟩ : ∃ b, b = w.heap.size + 1 := ⟨_, rfl⟩
  obtain ⟨b2, e2⟩ : ∃ b, b = w.heap.size + 1 + 1 := ⟨_, rfl⟩
  rw [← e2, ← e1, ← e0] at K0
  rw [← e2, ← e1, ← e0]
  have HK := Lib.hid K0
  have HE := Lib.hid (And.intro e0 (And.intro e1 e2))
  have c0 := K0.1.cell 0
  have c1 := K0.1.cell 1
  have c2 := K0.1.cell 2
  have c3 := K0.1.cell 3
  have c4 := K0.1.cell 4
  have c5 := K0.1.cell 5
  have c6 := K0.1.cell 6
  have c7 := K0.1.cell 7
  simp only [List.getElem?_cons_succ, List.getElem?_cons_zero] at c0 c1 c2 c3 c4 c5 c6 c7
  have l0 := K0.1.lt
  clear K0 e0 e1 e2
  refine wp_region_kin (by kernel_rfl) (by kernel_rfl) w0.heap.size 0 (by simp) (fun hk => ?_)
  repeat (go_big_quiet_step (fail))
  refine wpQuiet_nil ?_
  clear hk c0 c1 c2 c3 c4 c5 c6 c7 l0
  intro w1 hb
  have HB1 := Lib.hid hb
  clear hb
  go_wp2_with fail
  go_loopw [5, 6, 7, 8, 9, 10, 11, 12, 34] (fun a b c d e f g h i wr => ∃ (j : Nat) (t : Sha.St), j ≤ 64 ∧ i = .int .i64 j ∧ a = wordV t.a ∧ b = wordV t.b ∧ c = wordV t.c ∧ d = wordV t.d ∧ e = wordV t.e ∧ f = wordV t.f ∧ g = wordV t.g ∧ h = wordV t.h ∧ t.Ok ∧
    t = Sha.rounds ⟨sa, sb, sc, sd, se, sf, sg, sh⟩ ((Sha.K.zip ws).take j) ∧ Below w0.heap.size w0 wr) (fun _ _ _ _ _ _ _ _ i _ => 64 - (intOf i).toNat)
  case atStart => exact ⟨0, ⟨sa, sb, sc, sd, se, sf, sg, sh⟩, by omega, rfl, rfl, rfl, rfl, rfl, rfl, rfl, rfl, rfl, HO.out, rfl, HB1.out⟩
  case round =>
    clear HB1
    obtain ⟨j, ⟨a, b, c, d, e, f, g, z⟩, hj, rfl, rfl, rfl, rfl, rfl, rfl, rfl, rfl, rfl, ht, hr, hB⟩ := hrel
    obtain ⟨x1, x2, x3, x4, x5, x6, x7, x8⟩ := ht.parts
    have HTT := Lib.hid ht
    dsimp only at *
    clear ht
    by_cases hlt : j < 64
    · have HR := Lib.hid (show Sha.rounds ⟨sa, sb, sc, sd, se, sf, sg, sh⟩ ((Sha.K.zip ws).take (j + 1)) = Sha.round ⟨a, b, c, d, e, f, g, z⟩ (Sha.K.getD j 0) ws[j] by
        rw [zip_at ws hl j hlt, rounds_more, ← hr])
      have hjl : j < ws.length := by omega
      have kc := (hB.cell (p := ⟨0, j, none⟩) (Nat.lt_of_lt_of_le HT.out.size HK.out.2.2.2.size)).trans ((HK.out.2.2.2.cell (p := ⟨0, j, none⟩) (by rw [HE.out.1]; exact HT.out.size)).trans (HT.out.cell j hlt))
      have wc := (HK.out.2.1.next hB).cell j
      rw [List.getElem?_map, List.getElem?_eq_getElem hjl, Option.map_some] at wc
      have kl := K_lt j
      have wl := HW.out _ (List.getElem_mem hjl)
      have HB := Lib.hid hB
      have B1 := Lib.hid (big1_eq x5)
      have B0 := Lib.hid (big0_eq x1)
      have E1 := Lib.hid (t1_eq (a := a) (b := b) (c := c) (d := d) (z := z) (k := Sha.K.getD j 0) (v := ws[j]) x5 x6 x7)
      have E2 := Lib.hid (t2_eq (d := d) (e := e) (f := f) (g := g) (z := z) x1 x2 x3)
      have CT1 := Lib.hid (fun b W (hR : Row W b 3 [.int .i64 6, .int .i64 11, .int .i64 25]) => turned_three e 6 11 25 b W x5 hR (by decide))
      have CT0 := Lib.hid (fun b W (hR : Row W b 3 [.int .i64 2, .int .i64 13, .int .i64 22]) => turned_three a 2 13 22 b W x1 hR (by decide))
      rw [B1.out.1] at CT1
      rw [B0.out.1] at CT0
      have HR2 := Lib.hid (round_ok HTT.out (Sha.K.getD j 0) ws[j])
      clear hr hB B1 B0
      generalize hk : Sha.K.getD j 0 = k at *
      generalize hv : ws[j] = v at *
      have gg : 0 < wr.heap.size := by
        have := HT.out.size
        have := HK.out.2.2.2.size
        have := HB.out.size
        omega
      clear hk hv
      go_upto_region 5 with (fail)
      go_cut [14] (fun v' wx => v' = wordV (Sha.t1 ⟨a, b, c, d, e, f, g, z⟩ k v) ∧ Below wr.heap.size wr wx)
      case first =>
        go_region_held3 (fun w' => w'.cell? ⟨0, j, none⟩ = some (.int .u32 (k : Int)) ∧ w'.cell? ⟨b1, j, none⟩ = some (wordV v)) (first | exact ⟨by assumption, by assumption⟩ | go_keep) (first | (go_at_call 85; with_reducible refine Calls.mono (CT1.out _ _ (by first | exact Row.new _ _ _ | exact (Row.new _ _ _).drew)) ?_; rintro e w' ⟨rfl, rfl⟩))
        go_wp2
        go_meet
        exact ⟨congrArg (Value.int .u32) E1.out, ((Below.refl _ _).alloc (Nat.le_refl _) _).drew⟩
      obtain ⟨rfl, hB1⟩ := hcut
      rename World => wa
      have HK1 := Lib.hid hB1
      clear CT1 hB1 kc wc E1
      go_upto_region 6 with (fail)
      go_cut [15] (fun v' wx => v' = wordV (Sha.t2 ⟨a, b, c, d, e, f, g, z⟩) ∧ Below wa.heap.size wa wx)
      case first =>
        go_wp2_with (go_at_call 85; with_reducible refine Calls.mono (CT0.out _ _ (by first | exact Row.new _ _ _ | exact (Row.new _ _ _).drew)) ?_; rintro e w' ⟨rfl, rfl⟩)
        go_meet
        exact ⟨congrArg (Value.int .u32) E2.out, (Below.refl _ _).alloc (Nat.le_refl _) _⟩
      obtain ⟨rfl, hB2⟩ := hcut
      rename World => wb
      have HK2 := Lib.hid (Below.andThen HB.out (Below.andThen HK1.out hB2))
      clear CT0 hB2 HK1 E2
      have S1 : Sha.t1 ⟨a, b, c, d, e, f, g, z⟩ k v < 2 ^ 32 := Nat.mod_lt _ (by decide)
      have S2 : Sha.t2 ⟨a, b, c, d, e, f, g, z⟩ < 2 ^ 32 := Nat.mod_lt _ (by decide)
      have HQ := Lib.hid (show Sha.round ⟨a, b, c, d, e, f, g, z⟩ k v = ⟨(Sha.t1 ⟨a, b, c, d, e, f, g, z⟩ k v + Sha.t2 ⟨a, b, c, d, e, f, g, z⟩) % 4294967296, a, b, c, (d + Sha.t1 ⟨a, b, c, d, e, f, g, z⟩ k v) % 4294967296, e, f, g⟩ from rfl)
      generalize Sha.t1 ⟨a, b, c, d, e, f, g, z⟩ k v = u1 at *
      generalize Sha.t2 ⟨a, b, c, d, e, f, g, z⟩ = u2 at *
      go_wp2_with fail
      go_roundw
      case rel =>
        refine ⟨j + 1, Sha.round ⟨a, b, c, d, e, f, g, z⟩ k v, by omega, by go_num, ?_, ?_, ?_, ?_, ?_, ?_, ?_, ?_, HR2.out, HR.out.symm, HK2.out⟩
        all_goals first | (rw [HQ.out]; done) | (rw [HQ.out]; simp)
      case measure => simp [intOf]; omega
    · obtain rfl : j = 64 := by omega
      have EM := Lib.hid (show Sha.mix ⟨sa, sb, sc, sd, se, sf, sg, sh⟩ ws = Sha.plus ⟨sa, sb, sc, sd, se, sf, sg, sh⟩ ⟨a, b, c, d, e, f, g, z⟩ by
        unfold Sha.mix
        rw [hr, List.take_of_length_le (by rw [List.length_zip, hl]; exact Nat.min_le_right _ _)])
      obtain ⟨y1, y2, y3, y4, y5, y6, y7, y8⟩ := HO.out.parts
      dsimp only at y1 y2 y3 y4 y5 y6 y7 y8
      have HR := Lib.hid (And.intro (HK.out.1.next hB) (And.intro (HK.out.2.2.1.next hB) (show Below b0 w wr by
        have := HE.out
        exact HK.out.2.2.2.trans (hB.mono (by have := HK.out.2.2.2.size; omega)))))
      clear hr hB HTT HK
      go_wp2_with fail
      go_loopw [96] (fun i wx => ∃ j : Nat, j ≤ 8 ∧ i = .int .i64 j ∧ Row wx b0 116 ((addUp ⟨sa, sb, sc, sd, se, sf, sg, sh⟩ ⟨a, b, c, d, e, f, g, z⟩ j).map wordV) ∧ Row wx b2 116 (List.replicate 8 (Value.int .u32 0)) ∧ Below b0 w wx) (fun i _ => 8 - (intOf i).toNat)
      case atStart => exact ⟨0, by omega, rfl, HR.out.1, HR.out.2.1, HR.out.2.2⟩
      case round =>
        obtain ⟨j, hj, rfl, r0, r2, hB⟩ := hrel
        clear HR
        by_cases hlt : j < 8
        · have R := Lib.hid (And.intro r0 (And.intro r2 hB))
          rcases (show j = 0 ∨ j = 1 ∨ j = 2 ∨ j = 3 ∨ j = 4 ∨ j = 5 ∨ j = 6 ∨ j = 7 by omega) with rfl | rfl | rfl | rfl | rfl | rfl | rfl | rfl
          · have hc := (r0.cell 0).trans (show _ = some (wordV sa) from rfl)
            have hf := r0.frozen 0
            have hlt0 := r0.lt
            have EQ := Lib.hid (show Value.int .u32 (((sa : Int) + (a : Int)) % 4294967296) = wordV ((sa + a) % 4294967296) by simp)
            have hix : ∀ W : World, (Instr.index 116 (.agg #[wordV a, wordV b, wordV c, wordV d, wordV e, wordV f, wordV g, wordV z]) (.int .i64 0)).run Tryd.prog W = .ok (wordV a) W := fun W => by kernel_rfl
            clear r0 r2 hB
            go_wp2_with fail
            go_roundw
            case rel =>
              obtain ⟨r0, r2, hB⟩ := R.out
              refine ⟨0 + 1, by omega, by go_num, ?_, r2.other (by have := HE.out; omega) _ _, hB.setCell (p := ⟨b0, _, none⟩) (by have := HE.out; show b0 ≤ b0; omega) _⟩
              rw [EQ.out]
              exact r0.set 0 _
            case measure => simp [intOf]
          · have hc := (r0.cell 1).trans (show _ = some (wordV sb) from rfl)
            have hf := r0.frozen 1
            have hlt0 := r0.lt
            have EQ := Lib.hid (show Value.int .u32 (((sb : Int) + (b : Int)) % 4294967296) = wordV ((sb + b) % 4294967296) by simp)
            have hix : ∀ W : World, (Instr.index 116 (.agg #[wordV a, wordV b, wordV c, wordV d, wordV e, wordV f, wordV g, wordV z]) (.int .i64 1)).run Tryd.prog W = .ok (wordV b) W := fun W => by kernel_rfl
            clear r0 r2 hB
            go_wp2_with fail
            go_roundw
            case rel =>
              obtain ⟨r0, r2, hB⟩ := R.out
              refine ⟨1 + 1, by omega, by go_num, ?_, r2.other (by have := HE.out; omega) _ _, hB.setCell (p := ⟨b0, _, none⟩) (by have := HE.out; show b0 ≤ b0; omega) _⟩
              rw [EQ.out]
              exact r0.set 1 _
            case measure => simp [intOf]
          · have hc := (r0.cell 2).trans (show _ = some (wordV sc) from rfl)
            have hf := r0.frozen 2
            have hlt0 := r0.lt
            have EQ := Lib.hid (show Value.int .u32 (((sc : Int) + (c : Int)) % 4294967296) = wordV ((sc + c) % 4294967296) by simp)
            have hix : ∀ W : World, (Instr.index 116 (.agg #[wordV a, wordV b, wordV c, wordV d, wordV e, wordV f, wordV g, wordV z]) (.int .i64 2)).run Tryd.prog W = .ok (wordV c) W := fun W => by kernel_rfl
            clear r0 r2 hB
            go_wp2_with fail
            go_roundw
            case rel =>
              obtain ⟨r0, r2, hB⟩ := R.out
              refine ⟨2 + 1, by omega, by go_num, ?_, r2.other (by have := HE.out; omega) _ _, hB.setCell (p := ⟨b0, _, none⟩) (by have := HE.out; show b0 ≤ b0; omega) _⟩
              rw [EQ.out]
              exact r0.set 2 _
            case measure => simp [intOf]
          · have hc := (r0.cell 3).trans (show _ = some (wordV sd) from rfl)
            have hf := r0.frozen 3
            have hlt0 := r0.lt
            have EQ := Lib.hid (show Value.int .u32 (((sd : Int) + (d : Int)) % 4294967296) = wordV ((sd + d) % 4294967296) by simp)
            have hix : ∀ W : World, (Instr.index 116 (.agg #[wordV a, wordV b, wordV c, wordV d, wordV e, wordV f, wordV g, wordV z]) (.int .i64 3)).run Tryd.prog W = .ok (wordV d) W := fun W => by kernel_rfl
            clear r0 r2 hB
            go_wp2_with fail
            go_roundw
            case rel =>
              obtain ⟨r0, r2, hB⟩ := R.out
              refine ⟨3 + 1, by omega, by go_num, ?_, r2.other (by have := HE.out; omega) _ _, hB.setCell (p := ⟨b0, _, none⟩) (by have := HE.out; show b0 ≤ b0; omega) _⟩
              rw [EQ.out]
              exact r0.set 3 _
            case measure => simp [intOf]
          · have hc := (r0.cell 4).trans (show _ = some (wordV se) from rfl)
            have hf := r0.frozen 4
            have hlt0 := r0.lt
            have EQ := Lib.hid (show Value.int .u32 (((se : Int) + (e : Int)) % 4294967296) = wordV ((se + e) % 4294967296) by simp)
            have hix : ∀ W : World, (Instr.index 116 (.agg #[wordV a, wordV b, wordV c, wordV d, wordV e, wordV f, wordV g, wordV z]) (.int .i64 4)).run Tryd.prog W = .ok (wordV e) W := fun W => by kernel_rfl
            clear r0 r2 hB
            go_wp2_with fail
            go_roundw
            case rel =>
              obtain ⟨r0, r2, hB⟩ := R.out
              refine ⟨4 + 1, by omega, by go_num, ?_, r2.other (by have := HE.out; omega) _ _, hB.setCell (p := ⟨b0, _, none⟩) (by have := HE.out; show b0 ≤ b0; omega) _⟩
              rw [EQ.out]
              exact r0.set 4 _
            case measure => simp [intOf]
          · have hc := (r0.cell 5).trans (show _ = some (wordV sf) from rfl)
            have hf := r0.frozen 5
            have hlt0 := r0.lt
            have EQ := Lib.hid (show Value.int .u32 (((sf : Int) + (f : Int)) % 4294967296) = wordV ((sf + f) % 4294967296) by simp)
            have hix : ∀ W : World, (Instr.index 116 (.agg #[wordV a, wordV b, wordV c, wordV d, wordV e, wordV f, wordV g, wordV z]) (.int .i64 5)).run Tryd.prog W = .ok (wordV f) W := fun W => by kernel_rfl
            clear r0 r2 hB
            go_wp2_with fail
            go_roundw
            case rel =>
              obtain ⟨r0, r2, hB⟩ := R.out
              refine ⟨5 + 1, by omega, by go_num, ?_, r2.other (by have := HE.out; omega) _ _, hB.setCell (p := ⟨b0, _, none⟩) (by have := HE.out; show b0 ≤ b0; omega) _⟩
              rw [EQ.out]
              exact r0.set 5 _
            case measure => simp [intOf]
          · have hc := (r0.cell 6).trans (show _ = some (wordV sg) from rfl)
            have hf := r0.frozen 6
            have hlt0 := r0.lt
            have EQ := Lib.hid (show Value.int .u32 (((sg : Int) + (g : Int)) % 4294967296) = wordV ((sg + g) % 4294967296) by simp)
            have hix : ∀ W : World, (Instr.index 116 (.agg #[wordV a, wordV b, wordV c, wordV d, wordV e, wordV f, wordV g, wordV z]) (.int .i64 6)).run Tryd.prog W = .ok (wordV g) W := fun W => by kernel_rfl
            clear r0 r2 hB
            go_wp2_with fail
            go_roundw
            case rel =>
              obtain ⟨r0, r2, hB⟩ := R.out
              refine ⟨6 + 1, by omega, by go_num, ?_, r2.other (by have := HE.out; omega) _ _, hB.setCell (p := ⟨b0, _, none⟩) (by have := HE.out; show b0 ≤ b0; omega) _⟩
              rw [EQ.out]
              exact r0.set 6 _
            case measure => simp [intOf]
          · have hc := (r0.cell 7).trans (show _ = some (wordV sh) from rfl)
            have hf := r0.frozen 7
            have hlt0 := r0.lt
            have EQ := Lib.hid (show Value.int .u32 (((sh : Int) + (z : Int)) % 4294967296) = wordV ((sh + z) % 4294967296) by simp)
            have hix : ∀ W : World, (Instr.index 116 (.agg #[wordV a, wordV b, wordV c, wordV d, wordV e, wordV f, wordV g, wordV z]) (.int .i64 7)).run Tryd.prog W = .ok (wordV z) W := fun W => by kernel_rfl
            clear r0 r2 hB
            go_wp2_with fail
            go_roundw
            case rel =>
              obtain ⟨r0, r2, hB⟩ := R.out
              refine ⟨7 + 1, by omega, by go_num, ?_, r2.other (by have := HE.out; omega) _ _, hB.setCell (p := ⟨b0, _, none⟩) (by have := HE.out; show b0 ≤ b0; omega) _⟩
              rw [EQ.out]
              exact r0.set 7 _
            case measure => simp [intOf]
        · obtain rfl : j = 8 := by omega
          have EA := Lib.hid (show (addUp ⟨sa, sb, sc, sd, se, sf, sg, sh⟩ ⟨a, b, c, d, e, f, g, z⟩ 8).map wordV = stC (Sha.mix ⟨sa, sb, sc, sd, se, sf, sg, sh⟩ ws) by rw [EM.out]; rfl)
          rw [EA.out] at r0
          have R0 := Lib.hid r0
          have R2 := Lib.hid r2
          have SZ := Lib.hid (show (Tryd.prog.info? 116).map (·.size) = some (stC (Sha.mix ⟨sa, sb, sc, sd, se, sf, sg, sh⟩ ws)).toArray.size by rw [infoState]; rfl)
          have O1 := Lib.hid (show (stC (Sha.mix ⟨sa, sb, sc, sd, se, sf, sg, sh⟩ ws)).toArray.all (·.oneCell') = true by simp [stC, Value.oneCell'])
          have L1 := Lib.hid (show (List.replicate 8 (Value.int .u32 0)).toArray.size = (stC (Sha.mix ⟨sa, sb, sc, sd, se, sf, sg, sh⟩ ws)).toArray.size from rfl)
          have HB := Lib.hid hB
          clear r0 r2 hB EA
          go_upto_region 14 with (fail)
          go_wp2_with (first | (refine wpList_load_row rfl _ _ rfl b0 rfl 116 (stC (Sha.mix ⟨sa, sb, sc, sd, se, sf, sg, sh⟩ ws)).toArray (0, 0) _ R0.out Tryd.underlying116 rfl SZ.out ?_) | (refine wpList_store_row rfl _ _ _ rfl b2 (stC (Sha.mix ⟨sa, sb, sc, sd, se, sf, sg, sh⟩ ws)).toArray rfl rfl 116 _ R2.out SZ.out L1.out O1.out ?_))
          refine bodyPost_ret (v := .agg (stC (Sha.mix ⟨sa, sb, sc, sd, se, sf, sg, sh⟩ ws)).toArray) (results_cell_row rfl _ _ b2 116 (stC (Sha.mix ⟨sa, sb, sc, sd, se, sf, sg, sh⟩ ws)).toArray (0, 0) _ rfl (setRow_heap _ b2 _ _ _ _ R2.out) Tryd.underlying116 rfl SZ.out) rfl ⟨rfl, ?_⟩
          obtain ⟨rfl, rfl, rfl⟩ := HE.out
          exact HB.out.trans ⟨rfl, rfl, rfl, by simp, fun k hk => setRow_other _ (w.heap.size + 1 + 1) k _ (by omega)⟩
end Go.Proofs.YtnhlhoijajhcjaaDoor
