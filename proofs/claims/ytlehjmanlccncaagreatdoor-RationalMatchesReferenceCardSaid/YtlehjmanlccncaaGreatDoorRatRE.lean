/- The reference: Add, Sub, Mul, Div. -/
import Derived.Test.YtlehjmanlccncaaGreatDoorRatRD
set_option linter.unusedVariables false
set_option linter.unusedSimpArgs false
namespace Go.Proofs.YtlehjmanlccncaaGreatDoor
open Go.RowKit

theorem cross_none {a b : ByteArray × ByteArray} (h : ∀ p q, Ra.val a = some p → Ra.val b = some q → ¬ (In.Fit (p.1 * q.2) ∧ In.Fit (q.1 * p.2) ∧ In.Fit (p.2 * q.2))) : Ra.addO (Ra.val a) (Ra.val b) = none ∧ Ra.subO (Ra.val a) (Ra.val b) = none := by
  cases ha : Ra.val a with
  | none => exact ⟨rfl, rfl⟩
  | some p =>
    cases hb : Ra.val b with
    | none => exact ⟨rfl, rfl⟩
    | some q =>
      have k := h p q ha hb
      exact ⟨if_neg (fun x => k ⟨x.1.1, x.1.2.1, x.1.2.2.2⟩), if_neg (fun x => k ⟨x.1.1, x.1.2.1, x.1.2.2.2⟩)⟩
theorem rMake_t {x y : Int} (hx : In.Fit x) (hy : In.Fit y) (W : World) : Calls Tryz.prog 28 #[.string (In.txt x), .string (In.txt y)] W fun e w' => e = .returned (resV (Ra.redO True x y)) ∧ Below W.heap.size W w' := by
  have k := rMake_r (In.txt x) (In.txt y) W (txt_le hx) (txt_le hy)
  rwa [show Ra.makeS (In.txt x) (In.txt y) = Ra.redO True x y from by unfold Ra.makeS; rw [In.num_fit hx, In.num_fit hy]] at k
theorem redO_tr {f : Prop} [Decidable f] (h : f) (x y : Int) : Ra.redO f x y = Ra.redO True x y := by
  unfold Ra.redO
  by_cases k : y ≠ 0
  · rw [if_pos ⟨h, k⟩, if_pos ⟨trivial, k⟩]
  · rw [if_neg (fun z => k z.2), if_neg (fun z => k z.2)]
theorem redO_not {f : Prop} [Decidable f] (h : ¬ f) (x y : Int) : Ra.redO f x y = none := if_neg (fun z => h z.1)
theorem res_parts (o : Option (Int × Int)) : ∃ (q1 q2 : ByteArray) (ec : Int), resV o = .tuple #[ratV (q1, q2), .int .i64 ec] := ⟨_, _, _, rfl⟩
set_option maxRecDepth 100000 in
set_option maxHeartbeats 8000000 in
theorem rAdd_r (a b : ByteArray × ByteArray) (w : World) (ha1 : a.1.size ≤ maxLen) (ha2 : a.2.size ≤ maxLen) (hb1 : b.1.size ≤ maxLen) (hb2 : b.2.size ≤ maxLen) :
    Calls Tryz.prog 16 #[ratV a, ratV b] w fun e w' => e = .returned (resV (Ra.addO (Ra.val a) (Ra.val b))) ∧ Below w.heap.size w w' := by
  obtain ⟨x, y, d, ok, hc, cc⟩ := rcross_r a b ha1 ha2 hb1 hb2
  have CC := Lib.hid cc
  have BB := Lib.hid (Below.refl w.heap.size w)
  have key : (ok = false ∧ resV (Ra.addO (Ra.val a) (Ra.val b)) = .tuple #[ratV (⟨#[]⟩, ⟨#[]⟩), .int .i64 40]) ∨
      (ok = true ∧ ∃ (s : ByteArray) (e : Int), (∀ W, Calls Tryz.prog 48 #[.string x, .string y] W fun r w' => r = .returned (.tuple #[.string s, .int .i64 e]) ∧ Below W.heap.size W w') ∧
        ((e = 30 ∧ resV (Ra.addO (Ra.val a) (Ra.val b)) = .tuple #[ratV (⟨#[]⟩, ⟨#[]⟩), .int .i64 40]) ∨
         (e = 0 ∧ ∀ W, Calls Tryz.prog 28 #[.string s, .string d] W fun r w' => r = .returned (resV (Ra.addO (Ra.val a) (Ra.val b))) ∧ Below W.heap.size W w'))) := by
    rcases hc with ⟨h, k⟩ | ⟨h, p, q, hp, hq, op, oq, f1, f2, f3, rfl, rfl, rfl⟩
    · refine .inl ⟨h, ?_⟩
      rw [(cross_none k).1]
      rfl
    · refine .inr ⟨h, ?_⟩
      rw [hp, hq]
      have k := fun W => rAdd_any (In.txt (p.1 * q.2)) (In.txt (q.1 * p.2)) W (txt_le f1) (txt_le f2)
      rw [In.opS_some (In.num_fit f1) (In.num_fit f2)] at k
      by_cases h4 : In.Fit (p.1 * q.2 + q.1 * p.2)
      · rw [show In.fit ((fun x y => x + y) (p.1 * q.2) (q.1 * p.2)) = (In.txt (p.1 * q.2 + q.1 * p.2), 0) from In.fit_pos h4] at k
        refine ⟨_, _, k, .inr ⟨rfl, fun W => ?_⟩⟩
        have m := rMake_t h4 f3 W
        rwa [← redO_tr (f := In.Fit (p.1 * q.2) ∧ In.Fit (q.1 * p.2) ∧ In.Fit (p.1 * q.2 + q.1 * p.2) ∧ In.Fit (p.2 * q.2)) ⟨f1, f2, h4, f3⟩] at m
      · rw [show In.fit ((fun x y => x + y) (p.1 * q.2) (q.1 * p.2)) = (⟨#[]⟩, 30) from In.fit_neg h4] at k
        refine ⟨_, _, k, .inl ⟨rfl, ?_⟩⟩
        rw [show Ra.addO (some p) (some q) = none from redO_not (fun z => h4 z.2.2.1) _ _]
        rfl
  obtain ⟨q1, q2, ec, hr⟩ := res_parts (Ra.addO (Ra.val a) (Ra.val b))
  rw [hr] at key ⊢
  obtain ⟨a1, a2⟩ := a
  obtain ⟨b1, b2⟩ := b
  have KEY := Lib.hid key
  clear key hr hc cc ha1 ha2 hb1 hb2
  go_enter Tryz.func16, Tryz.ntmps16
  go_upto_region 1 with (fail)
  refine wp_named fun w1 hq => ?_
  obtain ⟨r0, r1, r2, hb⟩ := rows3 w 23 23 23 [.string a1, .string a2] [.string b1, .string b2] [.string ⟨#[]⟩, .string ⟨#[]⟩] w1 hq
  have A := Lib.hid r0
  have B := Lib.hid r1
  have Z := Lib.hid r2
  have HL := Lib.hid (show w.heap.size ≤ w.heap.size + 1 + 1 by omega)
  generalize w.heap.size + 1 + 1 = bZ at *
  generalize w.heap.size + 1 = bB at *
  obtain ⟨bA, ebA⟩ : ∃ b, b = w.heap.size := ⟨_, rfl⟩
  rw [← ebA] at A ⊢
  replace BB := Lib.hid (Below.andThen BB.out hb)
  clear hq hb ebA r0 r1 r2
  obtain ⟨cA0, cA1⟩ := A.out.two
  have lA := A.out.lt
  obtain ⟨cB0, cB1⟩ := B.out.two
  have lB := B.out.lt
  go_wp2_with fail
  clear cA0 cA1 lA cB0 cB1 lB
  with_reducible refine Calls.mono (CC.out _) ?_
  rintro e w2 ⟨rfl, hb⟩
  replace Z := Lib.hid (Z.out.next hb)
  replace BB := Lib.hid (Below.andThen BB.out hb)
  clear hb
  rcases KEY.out with ⟨rfl, hr⟩ | ⟨rfl, s, e, ca, ⟨rfl, hr⟩ | ⟨rfl, cm⟩⟩
  · simp only [Value.tuple.injEq, Array.mk.injEq, List.cons.injEq, and_true, true_and, Value.int.injEq, Value.agg.injEq, Value.string.injEq] at hr
    obtain ⟨⟨rfl, rfl⟩, rfl⟩ := hr
    clear KEY
    obtain ⟨cZ0, cZ1⟩ := Z.out.two
    have lZ := Z.out.lt
    have f0 := Z.out.frozen 0
    have f1 := Z.out.frozen 1
    go_wp2_with fail
    refine bodyPost_ret (v := .tuple #[ratV (⟨#[]⟩, ⟨#[]⟩), .int .i64 40]) (by first | (simp [results, Tryz.results16, go_sem]; done) | simp [results, Tryz.results16, go_sem, *]) rfl ⟨rfl, (BB.out.setCell (p := ⟨bZ, 0, none⟩) HL.out _).setCell (p := ⟨bZ, 1, none⟩) HL.out _⟩
  · simp only [Value.tuple.injEq, Array.mk.injEq, List.cons.injEq, and_true, true_and, Value.int.injEq, Value.agg.injEq, Value.string.injEq] at hr
    obtain ⟨⟨rfl, rfl⟩, rfl⟩ := hr
    have CA := Lib.hid ca
    clear KEY ca
    go_wp2_with fail
    with_reducible refine Calls.mono (CA.out _) ?_
    rintro e w3 ⟨rfl, hb⟩
    replace Z := Lib.hid (Z.out.next hb)
    replace BB := Lib.hid (Below.andThen BB.out hb)
    clear hb
    obtain ⟨cZ0, cZ1⟩ := Z.out.two
    have lZ := Z.out.lt
    have f0 := Z.out.frozen 0
    have f1 := Z.out.frozen 1
    go_wp2_with fail
    refine bodyPost_ret (v := .tuple #[ratV (⟨#[]⟩, ⟨#[]⟩), .int .i64 40]) (by first | (simp [results, Tryz.results16, go_sem]; done) | simp [results, Tryz.results16, go_sem, *]) rfl ⟨rfl, (BB.out.setCell (p := ⟨bZ, 0, none⟩) HL.out _).setCell (p := ⟨bZ, 1, none⟩) HL.out _⟩
  · have CA := Lib.hid ca
    have CM := Lib.hid cm
    clear KEY ca cm
    go_wp2_with fail
    with_reducible refine Calls.mono (CA.out _) ?_
    rintro e w3 ⟨rfl, hb⟩
    replace Z := Lib.hid (Z.out.next hb)
    replace BB := Lib.hid (Below.andThen BB.out hb)
    clear hb
    go_wp2_with fail
    with_reducible refine Calls.mono (CM.out _) ?_
    rintro e w4 ⟨rfl, hb⟩
    replace Z := Lib.hid (Z.out.next hb)
    replace BB := Lib.hid (Below.andThen BB.out hb)
    clear hb
    obtain ⟨cZ0, cZ1⟩ := Z.out.two
    have lZ := Z.out.lt
    have f0 := Z.out.frozen 0
    have f1 := Z.out.frozen 1
    go_wp2_with fail
    refine bodyPost_ret (v := .tuple #[ratV (q1, q2), .int .i64 ec]) (by first | (simp [results, Tryz.results16, go_sem]; done) | simp [results, Tryz.results16, go_sem, *]) rfl ⟨rfl, (BB.out.setCell (p := ⟨bZ, 0, none⟩) HL.out _).setCell (p := ⟨bZ, 1, none⟩) HL.out _⟩
set_option maxRecDepth 100000 in
set_option maxHeartbeats 8000000 in
theorem rSub_r (a b : ByteArray × ByteArray) (w : World) (ha1 : a.1.size ≤ maxLen) (ha2 : a.2.size ≤ maxLen) (hb1 : b.1.size ≤ maxLen) (hb2 : b.2.size ≤ maxLen) :
    Calls Tryz.prog 17 #[ratV a, ratV b] w fun e w' => e = .returned (resV (Ra.subO (Ra.val a) (Ra.val b))) ∧ Below w.heap.size w w' := by
  obtain ⟨x, y, d, ok, hc, cc⟩ := rcross_r a b ha1 ha2 hb1 hb2
  have CC := Lib.hid cc
  have BB := Lib.hid (Below.refl w.heap.size w)
  have key : (ok = false ∧ resV (Ra.subO (Ra.val a) (Ra.val b)) = .tuple #[ratV (⟨#[]⟩, ⟨#[]⟩), .int .i64 40]) ∨
      (ok = true ∧ ∃ (s : ByteArray) (e : Int), (∀ W, Calls Tryz.prog 49 #[.string x, .string y] W fun r w' => r = .returned (.tuple #[.string s, .int .i64 e]) ∧ Below W.heap.size W w') ∧
        ((e = 30 ∧ resV (Ra.subO (Ra.val a) (Ra.val b)) = .tuple #[ratV (⟨#[]⟩, ⟨#[]⟩), .int .i64 40]) ∨
         (e = 0 ∧ ∀ W, Calls Tryz.prog 28 #[.string s, .string d] W fun r w' => r = .returned (resV (Ra.subO (Ra.val a) (Ra.val b))) ∧ Below W.heap.size W w'))) := by
    rcases hc with ⟨h, k⟩ | ⟨h, p, q, hp, hq, op, oq, f1, f2, f3, rfl, rfl, rfl⟩
    · refine .inl ⟨h, ?_⟩
      rw [(cross_none k).2]
      rfl
    · refine .inr ⟨h, ?_⟩
      rw [hp, hq]
      have k := fun W => rSub_any (In.txt (p.1 * q.2)) (In.txt (q.1 * p.2)) W (txt_le f1) (txt_le f2)
      rw [In.opS_some (In.num_fit f1) (In.num_fit f2)] at k
      by_cases h4 : In.Fit (p.1 * q.2 - q.1 * p.2)
      · rw [show In.fit ((fun x y => x - y) (p.1 * q.2) (q.1 * p.2)) = (In.txt (p.1 * q.2 - q.1 * p.2), 0) from In.fit_pos h4] at k
        refine ⟨_, _, k, .inr ⟨rfl, fun W => ?_⟩⟩
        have m := rMake_t h4 f3 W
        rwa [← redO_tr (f := In.Fit (p.1 * q.2) ∧ In.Fit (q.1 * p.2) ∧ In.Fit (p.1 * q.2 - q.1 * p.2) ∧ In.Fit (p.2 * q.2)) ⟨f1, f2, h4, f3⟩] at m
      · rw [show In.fit ((fun x y => x - y) (p.1 * q.2) (q.1 * p.2)) = (⟨#[]⟩, 30) from In.fit_neg h4] at k
        refine ⟨_, _, k, .inl ⟨rfl, ?_⟩⟩
        rw [show Ra.subO (some p) (some q) = none from redO_not (fun z => h4 z.2.2.1) _ _]
        rfl
  obtain ⟨q1, q2, ec, hr⟩ := res_parts (Ra.subO (Ra.val a) (Ra.val b))
  rw [hr] at key ⊢
  obtain ⟨a1, a2⟩ := a
  obtain ⟨b1, b2⟩ := b
  have KEY := Lib.hid key
  clear key hr hc cc ha1 ha2 hb1 hb2
  go_enter Tryz.func17, Tryz.ntmps17
  go_upto_region 1 with (fail)
  refine wp_named fun w1 hq => ?_
  obtain ⟨r0, r1, r2, hb⟩ := rows3 w 23 23 23 [.string a1, .string a2] [.string b1, .string b2] [.string ⟨#[]⟩, .string ⟨#[]⟩] w1 hq
  have A := Lib.hid r0
  have B := Lib.hid r1
  have Z := Lib.hid r2
  have HL := Lib.hid (show w.heap.size ≤ w.heap.size + 1 + 1 by omega)
  generalize w.heap.size + 1 + 1 = bZ at *
  generalize w.heap.size + 1 = bB at *
  obtain ⟨bA, ebA⟩ : ∃ b, b = w.heap.size := ⟨_, rfl⟩
  rw [← ebA] at A ⊢
  replace BB := Lib.hid (Below.andThen BB.out hb)
  clear hq hb ebA r0 r1 r2
  obtain ⟨cA0, cA1⟩ := A.out.two
  have lA := A.out.lt
  obtain ⟨cB0, cB1⟩ := B.out.two
  have lB := B.out.lt
  go_wp2_with fail
  clear cA0 cA1 lA cB0 cB1 lB
  with_reducible refine Calls.mono (CC.out _) ?_
  rintro e w2 ⟨rfl, hb⟩
  replace Z := Lib.hid (Z.out.next hb)
  replace BB := Lib.hid (Below.andThen BB.out hb)
  clear hb
  rcases KEY.out with ⟨rfl, hr⟩ | ⟨rfl, s, e, ca, ⟨rfl, hr⟩ | ⟨rfl, cm⟩⟩
  · simp only [Value.tuple.injEq, Array.mk.injEq, List.cons.injEq, and_true, true_and, Value.int.injEq, Value.agg.injEq, Value.string.injEq] at hr
    obtain ⟨⟨rfl, rfl⟩, rfl⟩ := hr
    clear KEY
    obtain ⟨cZ0, cZ1⟩ := Z.out.two
    have lZ := Z.out.lt
    have f0 := Z.out.frozen 0
    have f1 := Z.out.frozen 1
    go_wp2_with fail
    refine bodyPost_ret (v := .tuple #[ratV (⟨#[]⟩, ⟨#[]⟩), .int .i64 40]) (by first | (simp [results, Tryz.results17, go_sem]; done) | simp [results, Tryz.results17, go_sem, *]) rfl ⟨rfl, (BB.out.setCell (p := ⟨bZ, 0, none⟩) HL.out _).setCell (p := ⟨bZ, 1, none⟩) HL.out _⟩
  · simp only [Value.tuple.injEq, Array.mk.injEq, List.cons.injEq, and_true, true_and, Value.int.injEq, Value.agg.injEq, Value.string.injEq] at hr
    obtain ⟨⟨rfl, rfl⟩, rfl⟩ := hr
    have CA := Lib.hid ca
    clear KEY ca
    go_wp2_with fail
    with_reducible refine Calls.mono (CA.out _) ?_
    rintro e w3 ⟨rfl, hb⟩
    replace Z := Lib.hid (Z.out.next hb)
    replace BB := Lib.hid (Below.andThen BB.out hb)
    clear hb
    obtain ⟨cZ0, cZ1⟩ := Z.out.two
    have lZ := Z.out.lt
    have f0 := Z.out.frozen 0
    have f1 := Z.out.frozen 1
    go_wp2_with fail
    refine bodyPost_ret (v := .tuple #[ratV (⟨#[]⟩, ⟨#[]⟩), .int .i64 40]) (by first | (simp [results, Tryz.results17, go_sem]; done) | simp [results, Tryz.results17, go_sem, *]) rfl ⟨rfl, (BB.out.setCell (p := ⟨bZ, 0, none⟩) HL.out _).setCell (p := ⟨bZ, 1, none⟩) HL.out _⟩
  · have CA := Lib.hid ca
    have CM := Lib.hid cm
    clear KEY ca cm
    go_wp2_with fail
    with_reducible refine Calls.mono (CA.out _) ?_
    rintro e w3 ⟨rfl, hb⟩
    replace Z := Lib.hid (Z.out.next hb)
    replace BB := Lib.hid (Below.andThen BB.out hb)
    clear hb
    go_wp2_with fail
    with_reducible refine Calls.mono (CM.out _) ?_
    rintro e w4 ⟨rfl, hb⟩
    replace Z := Lib.hid (Z.out.next hb)
    replace BB := Lib.hid (Below.andThen BB.out hb)
    clear hb
    obtain ⟨cZ0, cZ1⟩ := Z.out.two
    have lZ := Z.out.lt
    have f0 := Z.out.frozen 0
    have f1 := Z.out.frozen 1
    go_wp2_with fail
    refine bodyPost_ret (v := .tuple #[ratV (q1, q2), .int .i64 ec]) (by first | (simp [results, Tryz.results17, go_sem]; done) | simp [results, Tryz.results17, go_sem, *]) rfl ⟨rfl, (BB.out.setCell (p := ⟨bZ, 0, none⟩) HL.out _).setCell (p := ⟨bZ, 1, none⟩) HL.out _⟩
set_option maxRecDepth 100000 in
set_option maxHeartbeats 8000000 in
theorem rMul_r (a b : ByteArray × ByteArray) (w : World) (ha1 : a.1.size ≤ maxLen) (ha2 : a.2.size ≤ maxLen) (hb1 : b.1.size ≤ maxLen) (hb2 : b.2.size ≤ maxLen) :
    Calls Tryz.prog 18 #[ratV a, ratV b] w fun e w' => e = .returned (resV (Ra.mulO (Ra.val a) (Ra.val b))) ∧ Below w.heap.size w w' := by
  obtain ⟨V1, c1, k1⟩ := val_key a ha1 ha2
  obtain ⟨V2, c2, k2⟩ := val_key b hb1 hb2
  obtain ⟨a1, a2⟩ := a
  obtain ⟨b1, b2⟩ := b
  have CV1 := Lib.hid c1
  have CV2 := Lib.hid c2
  have BB := Lib.hid (Below.refl w.heap.size w)
  clear c1 c2 ha1 ha2 hb1 hb2
  have key : ((V1 = false ∨ (V1 = true ∧ V2 = false)) ∧ resV (Ra.mulO (Ra.val (a1, a2)) (Ra.val (b1, b2))) = .tuple #[ratV (⟨#[]⟩, ⟨#[]⟩), .int .i64 40]) ∨
      (V1 = true ∧ V2 = true ∧ ∃ (s : ByteArray) (e : Int) (t : ByteArray) (f : Int),
        (∀ W, Calls Tryz.prog 44 #[.string a1, .string b1] W fun r w' => r = .returned (.tuple #[.string s, .int .i64 e]) ∧ Below W.heap.size W w') ∧
        (∀ W, Calls Tryz.prog 44 #[.string a2, .string b2] W fun r w' => r = .returned (.tuple #[.string t, .int .i64 f]) ∧ Below W.heap.size W w') ∧
        (((e = 30 ∨ (e = 0 ∧ f = 30)) ∧ resV (Ra.mulO (Ra.val (a1, a2)) (Ra.val (b1, b2))) = .tuple #[ratV (⟨#[]⟩, ⟨#[]⟩), .int .i64 40]) ∨
         (e = 0 ∧ f = 0 ∧ ∀ W, Calls Tryz.prog 28 #[.string s, .string t] W fun r w' => r = .returned (resV (Ra.mulO (Ra.val (a1, a2)) (Ra.val (b1, b2)))) ∧ Below W.heap.size W w'))) := by
    rcases k1 with ⟨h1, n1⟩ | ⟨h1, p, hp, op, e1, e2⟩
    · refine .inl ⟨.inl h1, ?_⟩
      rw [n1]
      rfl
    rcases k2 with ⟨h2, n2⟩ | ⟨h2, q, hq, oq, e3, e4⟩
    · refine .inl ⟨.inr ⟨h1, h2⟩, ?_⟩
      rw [n2, hp]
      rfl
    dsimp only at e1 e2 e3 e4
    obtain ⟨s, e, cs, ks⟩ := rMul_e op.num oq.num
    obtain ⟨t, f, ct, kt⟩ := rMul_e op.den oq.den
    rw [← e1, ← e3] at cs
    rw [← e2, ← e4] at ct
    refine .inr ⟨h1, h2, s, e, t, f, cs, ct, ?_⟩
    rw [hp, hq]
    rcases ks with ⟨f1, g1, h1'⟩ | ⟨f1, h1'⟩
    · rcases kt with ⟨f2, g2, h2'⟩ | ⟨f2, h2'⟩
      · refine .inr ⟨h1', h2', fun W => ?_⟩
        have m := rMake_t f1 f2 W
        rw [← redO_tr (f := In.Fit (p.1 * q.1) ∧ In.Fit (p.2 * q.2)) ⟨f1, f2⟩, ← g1, ← g2] at m
        exact m
      · refine .inl ⟨.inr ⟨h1', h2'⟩, ?_⟩
        rw [show Ra.mulO (some p) (some q) = none from redO_not (fun z => f2 z.2) _ _]
        rfl
    · refine .inl ⟨.inl h1', ?_⟩
      rw [show Ra.mulO (some p) (some q) = none from redO_not (fun z => f1 z.1) _ _]
      rfl
  obtain ⟨q1, q2, ec, hr⟩ := res_parts (Ra.mulO (Ra.val (a1, a2)) (Ra.val (b1, b2)))
  rw [hr] at key ⊢
  have KEY := Lib.hid key
  clear key hr k1 k2
  go_enter Tryz.func18, Tryz.ntmps18
  go_upto_region 1 with (fail)
  refine wp_named fun w1 hq => ?_
  obtain ⟨r0, r1, r2, hb⟩ := rows3 w 23 23 23 [.string a1, .string a2] [.string b1, .string b2] [.string ⟨#[]⟩, .string ⟨#[]⟩] w1 hq
  have A := Lib.hid r0
  have B := Lib.hid r1
  have Z := Lib.hid r2
  have HL := Lib.hid (show w.heap.size ≤ w.heap.size + 1 + 1 by omega)
  generalize w.heap.size + 1 + 1 = bZ at *
  generalize w.heap.size + 1 = bB at *
  obtain ⟨bA, ebA⟩ : ∃ b, b = w.heap.size := ⟨_, rfl⟩
  rw [← ebA] at A ⊢
  replace BB := Lib.hid (Below.andThen BB.out hb)
  clear hq hb ebA r0 r1 r2
  obtain ⟨cA0, cA1⟩ := A.out.two
  have lA := A.out.lt
  obtain ⟨cB0, cB1⟩ := B.out.two
  have lB := B.out.lt
  go_wp2_with fail
  clear cA0 cA1 lA cB0 cB1 lB
  with_reducible refine Calls.mono (CV1.out _) ?_
  rintro e w2 ⟨rfl, hb⟩
  replace A := Lib.hid (A.out.next hb)
  replace B := Lib.hid (B.out.next hb)
  replace Z := Lib.hid (Z.out.next hb)
  replace BB := Lib.hid (Below.andThen BB.out hb)
  clear hb
  obtain ⟨cA0, cA1⟩ := A.out.two
  have lA := A.out.lt
  obtain ⟨cB0, cB1⟩ := B.out.two
  have lB := B.out.lt
  go_wp2_with fail
  clear cA0 cA1 lA cB0 cB1 lB
  with_reducible refine Calls.mono (CV2.out _) ?_
  rintro e w3 ⟨rfl, hb⟩
  replace A := Lib.hid (A.out.next hb)
  replace B := Lib.hid (B.out.next hb)
  replace Z := Lib.hid (Z.out.next hb)
  replace BB := Lib.hid (Below.andThen BB.out hb)
  clear hb
  rcases KEY.out with ⟨hv, hr⟩ | ⟨rfl, rfl, s, e, t, f, cs, ct, hk⟩
  · simp only [Value.tuple.injEq, Array.mk.injEq, List.cons.injEq, and_true, true_and, Value.int.injEq, Value.agg.injEq, Value.string.injEq] at hr
    obtain ⟨⟨rfl, rfl⟩, rfl⟩ := hr
    clear KEY
    obtain ⟨cZ0, cZ1⟩ := Z.out.two
    have lZ := Z.out.lt
    have f0 := Z.out.frozen 0
    have f1 := Z.out.frozen 1
    have hv' : (V1 = false ∧ V2 = false) ∨ (V1 = false ∧ V2 = true) ∨ (V1 = true ∧ V2 = false) := by cases V1 <;> cases V2 <;> simp_all
    clear hv
    rcases hv' with ⟨rfl, rfl⟩ | ⟨rfl, rfl⟩ | ⟨rfl, rfl⟩
    all_goals
      go_wp2_with fail
      refine bodyPost_ret (v := .tuple #[ratV (⟨#[]⟩, ⟨#[]⟩), .int .i64 40]) (by first | (simp [results, Tryz.results18, go_sem]; done) | simp [results, Tryz.results18, go_sem, *]) rfl ⟨rfl, (BB.out.setCell (p := ⟨bZ, 0, none⟩) HL.out _).setCell (p := ⟨bZ, 1, none⟩) HL.out _⟩
  · have CS := Lib.hid cs
    have CT := Lib.hid ct
    have HK := Lib.hid hk
    clear KEY cs ct hk
    obtain ⟨cA0, cA1⟩ := A.out.two
    have lA := A.out.lt
    obtain ⟨cB0, cB1⟩ := B.out.two
    have lB := B.out.lt
    go_wp2_with fail
    clear cA0 cA1 lA cB0 cB1 lB
    with_reducible refine Calls.mono (CS.out _) ?_
    rintro e w4 ⟨rfl, hb⟩
    replace A := Lib.hid (A.out.next hb)
    replace B := Lib.hid (B.out.next hb)
    replace Z := Lib.hid (Z.out.next hb)
    replace BB := Lib.hid (Below.andThen BB.out hb)
    clear hb
    obtain ⟨cA0, cA1⟩ := A.out.two
    have lA := A.out.lt
    obtain ⟨cB0, cB1⟩ := B.out.two
    have lB := B.out.lt
    go_wp2_with fail
    clear cA0 cA1 lA cB0 cB1 lB
    with_reducible refine Calls.mono (CT.out _) ?_
    rintro e w5 ⟨rfl, hb⟩
    replace Z := Lib.hid (Z.out.next hb)
    replace BB := Lib.hid (Below.andThen BB.out hb)
    clear hb
    obtain ⟨cZ0, cZ1⟩ := Z.out.two
    have lZ := Z.out.lt
    have f0 := Z.out.frozen 0
    have f1 := Z.out.frozen 1
    rcases HK.out with ⟨rfl | ⟨rfl, rfl⟩, hr⟩ | ⟨rfl, rfl, cm⟩
    · simp only [Value.tuple.injEq, Array.mk.injEq, List.cons.injEq, and_true, true_and, Value.int.injEq, Value.agg.injEq, Value.string.injEq] at hr
      obtain ⟨⟨rfl, rfl⟩, rfl⟩ := hr
      clear HK
      go_wp2_with fail
      refine bodyPost_ret (v := .tuple #[ratV (⟨#[]⟩, ⟨#[]⟩), .int .i64 40]) (by first | (simp [results, Tryz.results18, go_sem]; done) | simp [results, Tryz.results18, go_sem, *]) rfl ⟨rfl, (BB.out.setCell (p := ⟨bZ, 0, none⟩) HL.out _).setCell (p := ⟨bZ, 1, none⟩) HL.out _⟩
    · simp only [Value.tuple.injEq, Array.mk.injEq, List.cons.injEq, and_true, true_and, Value.int.injEq, Value.agg.injEq, Value.string.injEq] at hr
      obtain ⟨⟨rfl, rfl⟩, rfl⟩ := hr
      clear HK
      go_wp2_with fail
      refine bodyPost_ret (v := .tuple #[ratV (⟨#[]⟩, ⟨#[]⟩), .int .i64 40]) (by first | (simp [results, Tryz.results18, go_sem]; done) | simp [results, Tryz.results18, go_sem, *]) rfl ⟨rfl, (BB.out.setCell (p := ⟨bZ, 0, none⟩) HL.out _).setCell (p := ⟨bZ, 1, none⟩) HL.out _⟩
    · have CM := Lib.hid cm
      clear HK cm f0 f1
      clear cZ0 cZ1 lZ
      go_wp2_with fail
      with_reducible refine Calls.mono (CM.out _) ?_
      rintro e w6 ⟨rfl, hb⟩
      replace Z := Lib.hid (Z.out.next hb)
      replace BB := Lib.hid (Below.andThen BB.out hb)
      clear hb
      obtain ⟨cZ0, cZ1⟩ := Z.out.two
      have lZ := Z.out.lt
      have f0 := Z.out.frozen 0
      have f1 := Z.out.frozen 1
      go_wp2_with fail
      refine bodyPost_ret (v := .tuple #[ratV (q1, q2), .int .i64 ec]) (by first | (simp [results, Tryz.results18, go_sem]; done) | simp [results, Tryz.results18, go_sem, *]) rfl ⟨rfl, (BB.out.setCell (p := ⟨bZ, 0, none⟩) HL.out _).setCell (p := ⟨bZ, 1, none⟩) HL.out _⟩
set_option maxRecDepth 100000 in
set_option maxHeartbeats 8000000 in
theorem rDiv_r (a b : ByteArray × ByteArray) (w : World) (ha1 : a.1.size ≤ maxLen) (ha2 : a.2.size ≤ maxLen) (hb1 : b.1.size ≤ maxLen) (hb2 : b.2.size ≤ maxLen) :
    Calls Tryz.prog 19 #[ratV a, ratV b] w fun e w' => e = .returned (resV (Ra.divO (Ra.val a) (Ra.val b))) ∧ Below w.heap.size w w' := by
  obtain ⟨V1, c1, k1⟩ := val_key a ha1 ha2
  obtain ⟨V2, c2, k2⟩ := val_key b hb1 hb2
  obtain ⟨a1, a2⟩ := a
  obtain ⟨b1, b2⟩ := b
  have CV1 := Lib.hid c1
  have CV2 := Lib.hid c2
  have BB := Lib.hid (Below.refl w.heap.size w)
  clear c1 c2 ha1 ha2 hb1 hb2
  have key : ((V1 = false ∨ (V1 = true ∧ V2 = false)) ∧ resV (Ra.divO (Ra.val (a1, a2)) (Ra.val (b1, b2))) = .tuple #[ratV (⟨#[]⟩, ⟨#[]⟩), .int .i64 40]) ∨
      (V1 = true ∧ V2 = true ∧ ∃ (s : ByteArray) (e : Int) (t : ByteArray) (f : Int),
        (∀ W, Calls Tryz.prog 44 #[.string a1, .string b2] W fun r w' => r = .returned (.tuple #[.string s, .int .i64 e]) ∧ Below W.heap.size W w') ∧
        (∀ W, Calls Tryz.prog 44 #[.string a2, .string b1] W fun r w' => r = .returned (.tuple #[.string t, .int .i64 f]) ∧ Below W.heap.size W w') ∧
        (((e = 30 ∨ (e = 0 ∧ f = 30)) ∧ resV (Ra.divO (Ra.val (a1, a2)) (Ra.val (b1, b2))) = .tuple #[ratV (⟨#[]⟩, ⟨#[]⟩), .int .i64 40]) ∨
         (e = 0 ∧ f = 0 ∧ ∀ W, Calls Tryz.prog 28 #[.string s, .string t] W fun r w' => r = .returned (resV (Ra.divO (Ra.val (a1, a2)) (Ra.val (b1, b2)))) ∧ Below W.heap.size W w'))) := by
    rcases k1 with ⟨h1, n1⟩ | ⟨h1, p, hp, op, e1, e2⟩
    · refine .inl ⟨.inl h1, ?_⟩
      rw [n1]
      rfl
    rcases k2 with ⟨h2, n2⟩ | ⟨h2, q, hq, oq, e3, e4⟩
    · refine .inl ⟨.inr ⟨h1, h2⟩, ?_⟩
      rw [n2, hp]
      rfl
    dsimp only at e1 e2 e3 e4
    obtain ⟨s, e, cs, ks⟩ := rMul_e op.num oq.den
    obtain ⟨t, f, ct, kt⟩ := rMul_e op.den oq.num
    rw [← e1, ← e4] at cs
    rw [← e2, ← e3] at ct
    refine .inr ⟨h1, h2, s, e, t, f, cs, ct, ?_⟩
    rw [hp, hq]
    rcases ks with ⟨f1, g1, h1'⟩ | ⟨f1, h1'⟩
    · rcases kt with ⟨f2, g2, h2'⟩ | ⟨f2, h2'⟩
      · refine .inr ⟨h1', h2', fun W => ?_⟩
        have m := rMake_t f1 f2 W
        rw [← redO_tr (f := In.Fit (p.1 * q.2) ∧ In.Fit (p.2 * q.1)) ⟨f1, f2⟩, ← g1, ← g2] at m
        exact m
      · refine .inl ⟨.inr ⟨h1', h2'⟩, ?_⟩
        rw [show Ra.divO (some p) (some q) = none from redO_not (fun z => f2 z.2) _ _]
        rfl
    · refine .inl ⟨.inl h1', ?_⟩
      rw [show Ra.divO (some p) (some q) = none from redO_not (fun z => f1 z.1) _ _]
      rfl
  obtain ⟨q1, q2, ec, hr⟩ := res_parts (Ra.divO (Ra.val (a1, a2)) (Ra.val (b1, b2)))
  rw [hr] at key ⊢
  have KEY := Lib.hid key
  clear key hr k1 k2
  go_enter Tryz.func19, Tryz.ntmps19
  go_upto_region 1 with (fail)
  refine wp_named fun w1 hq => ?_
  obtain ⟨r0, r1, r2, hb⟩ := rows3 w 23 23 23 [.string a1, .string a2] [.string b1, .string b2] [.string ⟨#[]⟩, .string ⟨#[]⟩] w1 hq
  have A := Lib.hid r0
  have B := Lib.hid r1
  have Z := Lib.hid r2
  have HL := Lib.hid (show w.heap.size ≤ w.heap.size + 1 + 1 by omega)
  generalize w.heap.size + 1 + 1 = bZ at *
  generalize w.heap.size + 1 = bB at *
  obtain ⟨bA, ebA⟩ : ∃ b, b = w.heap.size := ⟨_, rfl⟩
  rw [← ebA] at A ⊢
  replace BB := Lib.hid (Below.andThen BB.out hb)
  clear hq hb ebA r0 r1 r2
  obtain ⟨cA0, cA1⟩ := A.out.two
  have lA := A.out.lt
  obtain ⟨cB0, cB1⟩ := B.out.two
  have lB := B.out.lt
  go_wp2_with fail
  clear cA0 cA1 lA cB0 cB1 lB
  with_reducible refine Calls.mono (CV1.out _) ?_
  rintro e w2 ⟨rfl, hb⟩
  replace A := Lib.hid (A.out.next hb)
  replace B := Lib.hid (B.out.next hb)
  replace Z := Lib.hid (Z.out.next hb)
  replace BB := Lib.hid (Below.andThen BB.out hb)
  clear hb
  obtain ⟨cA0, cA1⟩ := A.out.two
  have lA := A.out.lt
  obtain ⟨cB0, cB1⟩ := B.out.two
  have lB := B.out.lt
  go_wp2_with fail
  clear cA0 cA1 lA cB0 cB1 lB
  with_reducible refine Calls.mono (CV2.out _) ?_
  rintro e w3 ⟨rfl, hb⟩
  replace A := Lib.hid (A.out.next hb)
  replace B := Lib.hid (B.out.next hb)
  replace Z := Lib.hid (Z.out.next hb)
  replace BB := Lib.hid (Below.andThen BB.out hb)
  clear hb
  rcases KEY.out with ⟨hv, hr⟩ | ⟨rfl, rfl, s, e, t, f, cs, ct, hk⟩
  · simp only [Value.tuple.injEq, Array.mk.injEq, List.cons.injEq, and_true, true_and, Value.int.injEq, Value.agg.injEq, Value.string.injEq] at hr
    obtain ⟨⟨rfl, rfl⟩, rfl⟩ := hr
    clear KEY
    obtain ⟨cZ0, cZ1⟩ := Z.out.two
    have lZ := Z.out.lt
    have f0 := Z.out.frozen 0
    have f1 := Z.out.frozen 1
    have hv' : (V1 = false ∧ V2 = false) ∨ (V1 = false ∧ V2 = true) ∨ (V1 = true ∧ V2 = false) := by cases V1 <;> cases V2 <;> simp_all
    clear hv
    rcases hv' with ⟨rfl, rfl⟩ | ⟨rfl, rfl⟩ | ⟨rfl, rfl⟩
    all_goals
      go_wp2_with fail
      refine bodyPost_ret (v := .tuple #[ratV (⟨#[]⟩, ⟨#[]⟩), .int .i64 40]) (by first | (simp [results, Tryz.results19, go_sem]; done) | simp [results, Tryz.results19, go_sem, *]) rfl ⟨rfl, (BB.out.setCell (p := ⟨bZ, 0, none⟩) HL.out _).setCell (p := ⟨bZ, 1, none⟩) HL.out _⟩
  · have CS := Lib.hid cs
    have CT := Lib.hid ct
    have HK := Lib.hid hk
    clear KEY cs ct hk
    obtain ⟨cA0, cA1⟩ := A.out.two
    have lA := A.out.lt
    obtain ⟨cB0, cB1⟩ := B.out.two
    have lB := B.out.lt
    go_wp2_with fail
    clear cA0 cA1 lA cB0 cB1 lB
    with_reducible refine Calls.mono (CS.out _) ?_
    rintro e w4 ⟨rfl, hb⟩
    replace A := Lib.hid (A.out.next hb)
    replace B := Lib.hid (B.out.next hb)
    replace Z := Lib.hid (Z.out.next hb)
    replace BB := Lib.hid (Below.andThen BB.out hb)
    clear hb
    obtain ⟨cA0, cA1⟩ := A.out.two
    have lA := A.out.lt
    obtain ⟨cB0, cB1⟩ := B.out.two
    have lB := B.out.lt
    go_wp2_with fail
    clear cA0 cA1 lA cB0 cB1 lB
    with_reducible refine Calls.mono (CT.out _) ?_
    rintro e w5 ⟨rfl, hb⟩
    replace Z := Lib.hid (Z.out.next hb)
    replace BB := Lib.hid (Below.andThen BB.out hb)
    clear hb
    obtain ⟨cZ0, cZ1⟩ := Z.out.two
    have lZ := Z.out.lt
    have f0 := Z.out.frozen 0
    have f1 := Z.out.frozen 1
    rcases HK.out with ⟨rfl | ⟨rfl, rfl⟩, hr⟩ | ⟨rfl, rfl, cm⟩
    · simp only [Value.tuple.injEq, Array.mk.injEq, List.cons.injEq, and_true, true_and, Value.int.injEq, Value.agg.injEq, Value.string.injEq] at hr
      obtain ⟨⟨rfl, rfl⟩, rfl⟩ := hr
      clear HK
      go_wp2_with fail
      refine bodyPost_ret (v := .tuple #[ratV (⟨#[]⟩, ⟨#[]⟩), .int .i64 40]) (by first | (simp [results, Tryz.results19, go_sem]; done) | simp [results, Tryz.results19, go_sem, *]) rfl ⟨rfl, (BB.out.setCell (p := ⟨bZ, 0, none⟩) HL.out _).setCell (p := ⟨bZ, 1, none⟩) HL.out _⟩
    · simp only [Value.tuple.injEq, Array.mk.injEq, List.cons.injEq, and_true, true_and, Value.int.injEq, Value.agg.injEq, Value.string.injEq] at hr
      obtain ⟨⟨rfl, rfl⟩, rfl⟩ := hr
      clear HK
      go_wp2_with fail
      refine bodyPost_ret (v := .tuple #[ratV (⟨#[]⟩, ⟨#[]⟩), .int .i64 40]) (by first | (simp [results, Tryz.results19, go_sem]; done) | simp [results, Tryz.results19, go_sem, *]) rfl ⟨rfl, (BB.out.setCell (p := ⟨bZ, 0, none⟩) HL.out _).setCell (p := ⟨bZ, 1, none⟩) HL.out _⟩
    · have CM := Lib.hid cm
      clear HK cm f0 f1
      clear cZ0 cZ1 lZ
      go_wp2_with fail
      with_reducible refine Calls.mono (CM.out _) ?_
      rintro e w6 ⟨rfl, hb⟩
      replace Z := Lib.hid (Z.out.next hb)
      replace BB := Lib.hid (Below.andThen BB.out hb)
      clear hb
      obtain ⟨cZ0, cZ1⟩ := Z.out.two
      have lZ := Z.out.lt
      have f0 := Z.out.frozen 0
      have f1 := Z.out.frozen 1
      go_wp2_with fail
      refine bodyPost_ret (v := .tuple #[ratV (q1, q2), .int .i64 ec]) (by first | (simp [results, Tryz.results19, go_sem]; done) | simp [results, Tryz.results19, go_sem, *]) rfl ⟨rfl, (BB.out.setCell (p := ⟨bZ, 0, none⟩) HL.out _).setCell (p := ⟨bZ, 1, none⟩) HL.out _⟩
end Go.Proofs.YtlehjmanlccncaaGreatDoor
