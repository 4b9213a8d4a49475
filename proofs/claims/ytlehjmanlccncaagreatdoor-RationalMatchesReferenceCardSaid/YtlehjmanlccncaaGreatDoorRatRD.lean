/- The reference: cross, Add, Sub, Mul, Div. -/
import Derived.Test.YtlehjmanlccncaaGreatDoorRatGH
import Derived.Test.YtlehjmanlccncaaGreatDoorRatFA
set_option linter.unusedVariables false
set_option linter.unusedSimpArgs false
namespace Go.Proofs.YtlehjmanlccncaaGreatDoor
open Go.RowKit

theorem rMul_e {x y : Int} (hx : In.Fit x) (hy : In.Fit y) : ∃ (s : ByteArray) (e : Int), (∀ W, Calls Tryz.prog 44 #[.string (In.txt x), .string (In.txt y)] W fun r w' => r = .returned (.tuple #[.string s, .int .i64 e]) ∧ Below W.heap.size W w') ∧
    ((In.Fit (x * y) ∧ s = In.txt (x * y) ∧ e = 0) ∨ (¬ In.Fit (x * y) ∧ e = 30)) := by
  have k := fun W => rMul_any (In.txt x) (In.txt y) W (txt_le hx) (txt_le hy)
  rw [In.opS_some (In.num_fit hx) (In.num_fit hy)] at k
  refine ⟨_, _, k, ?_⟩
  by_cases h : In.Fit (x * y)
  · refine .inl ⟨h, ?_, ?_⟩
    · show (In.fit (x * y)).1 = _; rw [In.fit_pos h]
    · show (In.fit (x * y)).2 = _; rw [In.fit_pos h]
  · refine .inr ⟨h, ?_⟩
    show (In.fit (x * y)).2 = _; rw [In.fit_neg h]
/-- a fraction that is valid, or not -/
theorem val_key (r : ByteArray × ByteArray) (h1 : r.1.size ≤ maxLen) (h2 : r.2.size ≤ maxLen) : ∃ V : Bool, (∀ W, Calls Tryz.prog 30 #[ratV r] W fun e w' => e = .returned (.bool V) ∧ Below W.heap.size W w') ∧
    ((V = false ∧ Ra.val r = none) ∨ (V = true ∧ ∃ p, Ra.val r = some p ∧ Ra.Ok p ∧ r.1 = In.txt p.1 ∧ r.2 = In.txt p.2)) := by
  refine ⟨_, fun W => rValid_r r W h1 h2, ?_⟩
  cases hv : Ra.val r with
  | none => exact .inl ⟨rfl, rfl⟩
  | some p =>
    obtain ⟨k1, k2, -, -⟩ := Ra.val_some hv
    exact .inr ⟨rfl, p, rfl, k2, by rw [k1]; rfl, by rw [k1]; rfl⟩
theorem rows2 (w : World) (t0 t1 : TypeId) (C0 C1 : List Value) (W : World) (e : W = (w.alloc (.cells C0.toArray t0)).alloc (.cells C1.toArray t1)) :
    Row W w.heap.size t0 C0 ∧ Row W (w.heap.size + 1) t1 C1 ∧ Below w.heap.size w W := by
  subst e
  have h1 := Row.new (w.alloc (.cells C0.toArray t0)) t1 C1
  rw [World.size_alloc] at h1
  exact ⟨(Row.new w t0 C0).alloc _, h1, ((Below.refl _ _).alloc (Nat.le_refl _) _).alloc (by simp) _⟩
/-- what cross finds -/
def CrossIs (a b : ByteArray × ByteArray) (x y d : ByteArray) (ok : Bool) : Prop :=
  (ok = false ∧ ∀ p q, Ra.val a = some p → Ra.val b = some q → ¬ (In.Fit (p.1 * q.2) ∧ In.Fit (q.1 * p.2) ∧ In.Fit (p.2 * q.2))) ∨
  (ok = true ∧ ∃ p q, Ra.val a = some p ∧ Ra.val b = some q ∧ Ra.Ok p ∧ Ra.Ok q ∧ In.Fit (p.1 * q.2) ∧ In.Fit (q.1 * p.2) ∧ In.Fit (p.2 * q.2) ∧ x = In.txt (p.1 * q.2) ∧ y = In.txt (q.1 * p.2) ∧ d = In.txt (p.2 * q.2))
set_option maxRecDepth 100000 in
set_option maxHeartbeats 8000000 in
theorem rcross_r (a b : ByteArray × ByteArray) (ha1 : a.1.size ≤ maxLen) (ha2 : a.2.size ≤ maxLen) (hb1 : b.1.size ≤ maxLen) (hb2 : b.2.size ≤ maxLen) : ∃ (x y d : ByteArray) (ok : Bool), CrossIs a b x y d ok ∧
    ∀ w, Calls Tryz.prog 47 #[ratV a, ratV b] w fun e w' => e = .returned (.tuple #[.string x, .string y, .string d, .bool ok]) ∧ Below w.heap.size w w' := by
  obtain ⟨V1, c1, k1⟩ := val_key a ha1 ha2
  obtain ⟨V2, c2, k2⟩ := val_key b hb1 hb2
  obtain ⟨a1, a2⟩ := a
  obtain ⟨b1, b2⟩ := b
  have CV1 := Lib.hid c1
  have CV2 := Lib.hid c2
  clear c1 c2 ha1 ha2 hb1 hb2
  have bad : V1 = false ∨ V2 = false → ∀ w, Calls Tryz.prog 47 #[ratV (a1, a2), ratV (b1, b2)] w fun e w' => e = .returned (.tuple #[.string ⟨#[]⟩, .string ⟨#[]⟩, .string ⟨#[]⟩, .bool false]) ∧ Below w.heap.size w w' := by
    intro h w
    clear k1 k2
    have BB := Lib.hid (Below.refl w.heap.size w)
    have hc : (V1 = false) ∨ (V1 = true ∧ V2 = false) := by cases V1 <;> simp_all
    clear h
    rcases hc with rfl | ⟨rfl, rfl⟩
    · cases V2
      all_goals
        go_enter Tryz.func47, Tryz.ntmps47
        go_upto_region 1 with (fail)
        refine wp_named fun w1 hq => ?_
        obtain ⟨r0, r1, hb⟩ := rows2 w 23 23 [.string a1, .string a2] [.string b1, .string b2] w1 hq
        have A := Lib.hid r0
        have B := Lib.hid r1
        generalize w.heap.size + 1 = bB at *
        obtain ⟨bA, ebA⟩ : ∃ b, b = w.heap.size := ⟨_, rfl⟩
        rw [← ebA] at A ⊢
        replace BB := Lib.hid (Below.andThen BB.out hb)
        clear hq hb ebA r0 r1
        obtain ⟨cA0, cA1⟩ := A.out.two
        have lA := A.out.lt
        obtain ⟨cB0, cB1⟩ := B.out.two
        have lB := B.out.lt
        go_wp2_with fail
        clear cA0 cA1 lA cB0 cB1 lB
        with_reducible refine Calls.mono (CV1.out _) ?_
        rintro e w2 ⟨rfl, hb⟩
        replace A := Lib.hid (A.out.next hb)
        replace B := Lib.hid (B.out.next hb)
        replace BB := Lib.hid (Below.andThen BB.out hb)
        clear hb
        obtain ⟨cA0, cA1⟩ := A.out.two
        have lA := A.out.lt
        obtain ⟨cB0, cB1⟩ := B.out.two
        have lB := B.out.lt
        go_wp2_with fail
        clear cA0 cA1 lA cB0 cB1 lB
        with_reducible refine Calls.mono (CV2.out _) ?_
        rintro e w3 ⟨rfl, hb⟩
        replace A := Lib.hid (A.out.next hb)
        replace B := Lib.hid (B.out.next hb)
        replace BB := Lib.hid (Below.andThen BB.out hb)
        clear hb
        go_wp2_with fail
        refine bodyPost_ret (v := .tuple #[.string ⟨#[]⟩, .string ⟨#[]⟩, .string ⟨#[]⟩, .bool false]) (by first | (simp [results, Tryz.results47, go_sem]; done) | simp [results, Tryz.results47, go_sem, *]) rfl ⟨rfl, BB.out⟩
    · go_enter Tryz.func47, Tryz.ntmps47
      go_upto_region 1 with (fail)
      refine wp_named fun w1 hq => ?_
      obtain ⟨r0, r1, hb⟩ := rows2 w 23 23 [.string a1, .string a2] [.string b1, .string b2] w1 hq
      have A := Lib.hid r0
      have B := Lib.hid r1
      generalize w.heap.size + 1 = bB at *
      obtain ⟨bA, ebA⟩ : ∃ b, b = w.heap.size := ⟨_, rfl⟩
      rw [← ebA] at A ⊢
      replace BB := Lib.hid (Below.andThen BB.out hb)
      clear hq hb ebA r0 r1
      obtain ⟨cA0, cA1⟩ := A.out.two
      have lA := A.out.lt
      obtain ⟨cB0, cB1⟩ := B.out.two
      have lB := B.out.lt
      go_wp2_with fail
      clear cA0 cA1 lA cB0 cB1 lB
      with_reducible refine Calls.mono (CV1.out _) ?_
      rintro e w2 ⟨rfl, hb⟩
      replace A := Lib.hid (A.out.next hb)
      replace B := Lib.hid (B.out.next hb)
      replace BB := Lib.hid (Below.andThen BB.out hb)
      clear hb
      obtain ⟨cA0, cA1⟩ := A.out.two
      have lA := A.out.lt
      obtain ⟨cB0, cB1⟩ := B.out.two
      have lB := B.out.lt
      go_wp2_with fail
      clear cA0 cA1 lA cB0 cB1 lB
      with_reducible refine Calls.mono (CV2.out _) ?_
      rintro e w3 ⟨rfl, hb⟩
      replace A := Lib.hid (A.out.next hb)
      replace B := Lib.hid (B.out.next hb)
      replace BB := Lib.hid (Below.andThen BB.out hb)
      clear hb
      go_wp2_with fail
      refine bodyPost_ret (v := .tuple #[.string ⟨#[]⟩, .string ⟨#[]⟩, .string ⟨#[]⟩, .bool false]) (by first | (simp [results, Tryz.results47, go_sem]; done) | simp [results, Tryz.results47, go_sem, *]) rfl ⟨rfl, BB.out⟩
  rcases k1 with ⟨h1, n1⟩ | ⟨rfl, p, hp, op, e1, e2⟩
  · exact ⟨_, _, _, _, .inl ⟨rfl, fun p q h _ => by rw [n1] at h; cases h⟩, bad (.inl h1)⟩
  rcases k2 with ⟨h2, n2⟩ | ⟨rfl, q, hq, oq, e3, e4⟩
  · exact ⟨_, _, _, _, .inl ⟨rfl, fun p q _ h => by rw [n2] at h; cases h⟩, bad (.inr h2)⟩
  clear bad
  dsimp only at e1 e2 e3 e4
  obtain ⟨x, ex, cx, kx⟩ := rMul_e op.num oq.den
  obtain ⟨y, ey, cy, ky⟩ := rMul_e oq.num op.den
  obtain ⟨d, ed, cd, kd⟩ := rMul_e op.den oq.den
  rw [← e1, ← e4] at cx
  rw [← e3, ← e2] at cy
  rw [← e2, ← e4] at cd
  have CX := Lib.hid cx
  have CY := Lib.hid cy
  have CD := Lib.hid cd
  have key : (∃ ok, CrossIs (a1, a2) (b1, b2) x y d ok ∧ ((ok = false ∧ ex = 30) ∨ (ok = false ∧ ex = 0 ∧ ey = 30) ∨ (ok = false ∧ ex = 0 ∧ ey = 0 ∧ ed = 30) ∨ (ok = true ∧ ex = 0 ∧ ey = 0 ∧ ed = 0))) := by
    have no : ∀ f : ¬ (In.Fit (p.1 * q.2) ∧ In.Fit (q.1 * p.2) ∧ In.Fit (p.2 * q.2)), CrossIs (a1, a2) (b1, b2) x y d false := fun f => .inl ⟨rfl, fun p' q' h1 h2 => by
      rw [hp] at h1; rw [hq] at h2
      obtain rfl := Option.some.inj h1
      obtain rfl := Option.some.inj h2
      exact f⟩
    rcases kx with ⟨f1, g1, h1⟩ | ⟨f1, h1⟩
    · rcases ky with ⟨f2, g2, h2⟩ | ⟨f2, h2⟩
      · rcases kd with ⟨f3, g3, h3⟩ | ⟨f3, h3⟩
        · exact ⟨true, .inr ⟨rfl, p, q, hp, hq, op, oq, f1, f2, f3, g1, g2, g3⟩, .inr (.inr (.inr ⟨rfl, h1, h2, h3⟩))⟩
        · exact ⟨false, no (fun k => f3 k.2.2), .inr (.inr (.inl ⟨rfl, h1, h2, h3⟩))⟩
      · exact ⟨false, no (fun k => f2 k.2.1), .inr (.inl ⟨rfl, h1, h2⟩)⟩
    · exact ⟨false, no (fun k => f1 k.1), .inl ⟨rfl, h1⟩⟩
  obtain ⟨ok, hc, hk⟩ := key
  refine ⟨x, y, d, ok, hc, fun w => ?_⟩
  have BB := Lib.hid (Below.refl w.heap.size w)
  clear hc kx ky kd cx cy cd hp hq op oq e1 e2 e3 e4
  rcases hk with ⟨rfl, rfl⟩ | ⟨rfl, rfl, rfl⟩ | ⟨rfl, rfl, rfl, rfl⟩ | ⟨rfl, rfl, rfl, rfl⟩
  all_goals
    go_enter Tryz.func47, Tryz.ntmps47
    go_upto_region 1 with (fail)
    refine wp_named fun w1 hq => ?_
    obtain ⟨r0, r1, hb⟩ := rows2 w 23 23 [.string a1, .string a2] [.string b1, .string b2] w1 hq
    have A := Lib.hid r0
    have B := Lib.hid r1
    generalize w.heap.size + 1 = bB at *
    obtain ⟨bA, ebA⟩ : ∃ b, b = w.heap.size := ⟨_, rfl⟩
    rw [← ebA] at A ⊢
    replace BB := Lib.hid (Below.andThen BB.out hb)
    clear hq hb ebA r0 r1
    obtain ⟨cA0, cA1⟩ := A.out.two
    have lA := A.out.lt
    obtain ⟨cB0, cB1⟩ := B.out.two
    have lB := B.out.lt
    go_wp2_with fail
    clear cA0 cA1 lA cB0 cB1 lB
    with_reducible refine Calls.mono (CV1.out _) ?_
    rintro e w2 ⟨rfl, hb⟩
    replace A := Lib.hid (A.out.next hb)
    replace B := Lib.hid (B.out.next hb)
    replace BB := Lib.hid (Below.andThen BB.out hb)
    clear hb
    obtain ⟨cA0, cA1⟩ := A.out.two
    have lA := A.out.lt
    obtain ⟨cB0, cB1⟩ := B.out.two
    have lB := B.out.lt
    go_wp2_with fail
    clear cA0 cA1 lA cB0 cB1 lB
    with_reducible refine Calls.mono (CV2.out _) ?_
    rintro e w3 ⟨rfl, hb⟩
    replace A := Lib.hid (A.out.next hb)
    replace B := Lib.hid (B.out.next hb)
    replace BB := Lib.hid (Below.andThen BB.out hb)
    clear hb
    obtain ⟨cA0, cA1⟩ := A.out.two
    have lA := A.out.lt
    obtain ⟨cB0, cB1⟩ := B.out.two
    have lB := B.out.lt
    go_wp2_with fail
    clear cA0 cA1 lA cB0 cB1 lB
    with_reducible refine Calls.mono (CX.out _) ?_
    rintro e w4 ⟨rfl, hb⟩
    replace A := Lib.hid (A.out.next hb)
    replace B := Lib.hid (B.out.next hb)
    replace BB := Lib.hid (Below.andThen BB.out hb)
    clear hb
    obtain ⟨cA0, cA1⟩ := A.out.two
    have lA := A.out.lt
    obtain ⟨cB0, cB1⟩ := B.out.two
    have lB := B.out.lt
    go_wp2_with fail
    clear cA0 cA1 lA cB0 cB1 lB
    with_reducible refine Calls.mono (CY.out _) ?_
    rintro e w5 ⟨rfl, hb⟩
    replace A := Lib.hid (A.out.next hb)
    replace B := Lib.hid (B.out.next hb)
    replace BB := Lib.hid (Below.andThen BB.out hb)
    clear hb
    obtain ⟨cA0, cA1⟩ := A.out.two
    have lA := A.out.lt
    obtain ⟨cB0, cB1⟩ := B.out.two
    have lB := B.out.lt
    go_wp2_with fail
    clear cA0 cA1 lA cB0 cB1 lB
    with_reducible refine Calls.mono (CD.out _) ?_
    rintro e w6 ⟨rfl, hb⟩
    replace A := Lib.hid (A.out.next hb)
    replace B := Lib.hid (B.out.next hb)
    replace BB := Lib.hid (Below.andThen BB.out hb)
    clear hb
    go_wp2_with fail
    first
    | (refine bodyPost_ret (v := .tuple #[.string x, .string y, .string d, .bool false]) (by first | (simp [results, Tryz.results47, go_sem]; done) | simp [results, Tryz.results47, go_sem, *]) rfl ⟨rfl, BB.out⟩)
    | (refine bodyPost_ret (v := .tuple #[.string x, .string y, .string d, .bool true]) (by first | (simp [results, Tryz.results47, go_sem]; done) | simp [results, Tryz.results47, go_sem, *]) rfl ⟨rfl, BB.out⟩)
end Go.Proofs.YtlehjmanlccncaaGreatDoor
