/- A parameter that is a slice of structs of three ints, a string and a slice of ints. -/
import Derived.Test.YtgmghfgcpjpigaaFlats
import Derived.Deep.Strs
namespace Go.Proofs.Ytgmghfgcpjpigaa
open Go.RowKit Go.ChangeShapes Go.WideShapes

structure StepP where
  c : Int
  a : Int
  m : Int
  S : ByteArray
  ko : Option Addr
  kl : Nat
  kc : Nat
  K : Nat → Int
def StepP.cells (p : StepP) : List Value := [.int .i64 p.c, .int .i64 p.a, .int .i64 p.m, .string p.S, .slice p.ko p.kl p.kc]
def StepP.Fits (p : StepP) (W : World) : Prop :=
  (-9223372036854775808 ≤ p.c ∧ p.c ≤ 9223372036854775807) ∧ (-9223372036854775808 ≤ p.a ∧ p.a ≤ 9223372036854775807) ∧ (-9223372036854775808 ≤ p.m ∧ p.m ≤ 9223372036854775807) ∧ p.S.size ≤ maxLen ∧ (p.kl ≤ maxLen ∧ p.kl ≤ p.kc) ∧
  ∀ i, i < p.kl → ∃ b, p.ko = some b ∧ b.block < W.heap.size ∧ ∀ w', Below W.heap.size W w' → w'.cell? (b.add i) = some (.int .i64 (p.K i))

theorem take_one {cs : List Value} {j : Nat} {v : Value} (h : (cs.drop j).take 1 = [v]) : cs[j]? = some v := by
  have : ((cs.drop j).take 1)[0]? = some v := by rw [h]; rfl
  simpa [List.getElem?_take, List.getElem?_drop] using this

section
variable {H : Type} {enc : TypeId × Value → H} {P : Program} {W : World} {base b0 : Nat} {spare : Nat → Bool} {held : Bool}
theorem step_of_trod {e : TypeId} {f0 f1 f2 f3 f4 : Field} {ke : TypeId} {fuel : Nat} {cs : List Value} {x : DataW H × List MemPlace} (he : P.underlying e = some (.struct #[f0, f1, f2, f3, f4])) (hc : P.cellsOf e = 5)
    (ho : [f0.offset, f1.offset, f2.offset, f3.offset, f4.offset] = [0, 1, 2, 3, 4]) (hz : [f0, f1, f2, f3, f4].all (fun f => P.cellsOf f.type == 1) = true)
    (h0 : P.underlying f0.type = some (.int .i64)) (h1 : P.underlying f1.type = some (.int .i64)) (h2 : P.underlying f2.type = some (.int .i64)) (h3 : P.underlying f3.type = some .string) (h4 : P.underlying f4.type = some (.slice ke)) (hke : P.underlying ke = some (.int .i64)) (hkc : P.cellsOf ke = 1)
    (h : DataW.trod enc P W base spare held fuel e cs = some x) : ∃ p : StepP, cs = p.cells ∧ p.Fits W := by
  obtain ⟨xs, n, _, _, hlen, hxl, hg⟩ := DataW.trod_struct he h
  rw [hc] at hlen
  simp only [List.cons.injEq, and_true] at ho
  obtain ⟨o0, o1, o2, o3, o4⟩ := ho
  simp only [List.all_cons, List.all_nil, Bool.and_true, Bool.and_eq_true, beq_iff_eq] at hz
  obtain ⟨z0, z1, z2, z3, z4⟩ := hz
  have hx : ∀ i, i < 5 → ∃ y, xs[i]? = some y := fun i hi => ⟨_, List.getElem?_eq_getElem (by rw [hxl]; exact hi)⟩
  obtain ⟨y0, e0⟩ := hx 0 (by omega)
  obtain ⟨y1, e1⟩ := hx 1 (by omega)
  obtain ⟨y2, e2⟩ := hx 2 (by omega)
  obtain ⟨y3, e3⟩ := hx 3 (by omega)
  obtain ⟨y4, e4⟩ := hx 4 (by omega)
  have g0 := hg 0 f0 rfl
  have g1 := hg 1 f1 rfl
  have g2 := hg 2 f2 rfl
  have g3 := hg 3 f3 rfl
  have g4 := hg 4 f4 rfl
  rw [o0, z0, e0] at g0
  rw [o1, z1, e1] at g1
  rw [o2, z2, e2] at g2
  rw [o3, z3, e3] at g3
  rw [o4, z4, e4] at g4
  obtain ⟨v0, q0, _, w0⟩ := DataW.trod_int h0 g0
  obtain ⟨v1, q1, _, w1⟩ := DataW.trod_int h1 g1
  obtain ⟨v2, q2, _, w2⟩ := DataW.trod_int h2 g2
  obtain ⟨v3, q3, _, w3⟩ := DataW.trod_string h3 g3
  have k0 := take_one q0
  have k1 := take_one q1
  have k2 := take_one q2
  have k3 := take_one q3
  have ecs : ∀ v4, cs[4]? = some v4 → cs = [.int .i64 v0, .int .i64 v1, .int .i64 v2, .string v3, v4] := fun v4 k4 => by
    match cs, hlen with
    | [a0, a1, a2, a3, a4], _ => simp_all
  rcases open_ints h4 hke hkc g4 with ⟨q4, _⟩ | ⟨a, len, cap, zs, q4, hb, hl, hm, hzl, _, hcell, _⟩
  · exact ⟨⟨v0, v1, v2, v3, none, 0, 0, fun _ => 0⟩, ecs _ (take_one q4), bd_i64 w0, bd_i64 w1, bd_i64 w2, w3, ⟨Nat.zero_le _, Nat.le_refl _⟩, fun i hi => absurd hi (Nat.not_lt_zero _)⟩
  · refine ⟨⟨v0, v1, v2, v3, some a, len, cap, fun i => zs.getD i 0⟩, ecs _ (take_one q4), bd_i64 w0, bd_i64 w1, bd_i64 w2, w3, ⟨Nat.le_trans hl hm, hl⟩, fun i hi => ⟨a, rfl, ?_, ?_⟩⟩
    all_goals have hz : i < zs.length := by rw [hzl]; dsimp only at hi; split <;> omega
    · have := cell_lies (hcell i hz)
      unfold Addr.add at this
      split at this <;> exact this
    · exact cell_stays (hcell i hz)

theorem open_stepS {r : Reach} {t e : TypeId} {f0 f1 f2 f3 f4 : Field} {ke : TypeId} {v : Value} {d : DataW H} {ps : List MemPlace} (ht : P.underlying t = some (.slice e)) (he : P.underlying e = some (.struct #[f0, f1, f2, f3, f4])) (hc : P.cellsOf e = 5)
    (ho : [f0.offset, f1.offset, f2.offset, f3.offset, f4.offset] = [0, 1, 2, 3, 4]) (hz : [f0, f1, f2, f3, f4].all (fun f => P.cellsOf f.type == 1) = true)
    (h0 : P.underlying f0.type = some (.int .i64)) (h1 : P.underlying f1.type = some (.int .i64)) (h2 : P.underlying f2.type = some (.int .i64)) (h3 : P.underlying f3.type = some .string) (h4 : P.underlying f4.type = some (.slice ke)) (hke : P.underlying ke = some (.int .i64)) (hkc : P.cellsOf ke = 1)
    (hval : Value.okWide P W r b0 t v) (hd : DataW.Trod enc P W base spare held t v d ps) :
    ∃ (o : Option Addr) (len cap : Nat) (L : Nat → StepP), v = .slice o len cap ∧ len ≤ maxLen ∧ (∀ i, i < len → (L i).Fits W) ∧
      ∀ i, i < len → ∃ a, o = some a ∧ ∀ w', Below W.heap.size W w' → w'.cell? (a.add (i * 5)) = some (.int .i64 (L i).c) ∧ w'.cell? ⟨(a.add (i * 5)).block, (a.add (i * 5)).off + 1, none⟩ = some (.int .i64 (L i).a) ∧
        w'.cell? ⟨(a.add (i * 5)).block, (a.add (i * 5)).off + 2, none⟩ = some (.int .i64 (L i).m) ∧ w'.cell? ⟨(a.add (i * 5)).block, (a.add (i * 5)).off + 3, none⟩ = some (.string (L i).S) ∧ w'.cell? ⟨(a.add (i * 5)).block, (a.add (i * 5)).off + 4, none⟩ = some (.slice (L i).ko (L i).kl (L i).kc) := by
  obtain ⟨o, len, cap, rfl⟩ := okWide_slice ht hval
  obtain ⟨fuel, hf⟩ := hd
  rcases Go.Deep.open_slice ht hf with ⟨h1, _⟩ | ⟨a, l', c, m, k, D, Pl, h1', _, h2', h3', h4', _, h5⟩
  · simp [Value.cells] at h1
    obtain ⟨rfl, rfl, rfl⟩ := h1
    exact ⟨none, 0, 0, fun _ => ⟨0, 0, 0, ⟨#[]⟩, none, 0, 0, fun _ => 0⟩, rfl, Nat.zero_le _, fun i hi => absurd hi (Nat.not_lt_zero _), fun i hi => absurd hi (Nat.not_lt_zero _)⟩
  · simp [Value.cells] at h1'
    obtain ⟨rfl, rfl, rfl⟩ := h1'
    have hlm : len ≤ m := by rw [h4']; split <;> omega
    have h6 : ∀ i, ∃ p : StepP, i < m → W.cells? base (a.add (i * 5)) 5 = some p.cells ∧ p.Fits W := fun i => by
      by_cases hi : i < m
      · obtain ⟨cs', x1, x2⟩ := h5 i hi
        obtain ⟨p, rfl, hp⟩ := step_of_trod he hc ho hz h0 h1 h2 h3 h4 hke hkc x2
        rw [hc] at x1
        exact ⟨p, fun _ => ⟨x1, hp⟩⟩
      · exact ⟨⟨0, 0, 0, ⟨#[]⟩, none, 0, 0, fun _ => 0⟩, fun h => absurd h hi⟩
    obtain ⟨L, hL⟩ := Classical.skolem.1 h6
    refine ⟨some a, len, cap, L, rfl, by omega, fun i hi => (hL i (by omega)).2, fun i hi => ⟨a, rfl, fun w' hb => ?_⟩⟩
    obtain ⟨x1, _⟩ := hL i (by omega)
    have x3 := (World.cells?_some x1).2.2
    have q : ∀ j v, j < 5 → (L i).cells[j]? = some v → w'.cell? ((a.add (i * 5)).add j) = some v := fun j v hj hv => by
      have := x3 j (by simpa [StepP.cells] using hj)
      rw [hv] at this
      exact cell_stays this w' hb
    have pl : ∀ j, 0 < j → (a.add (i * 5)).add j = ⟨(a.add (i * 5)).block, (a.add (i * 5)).off + j, none⟩ := fun j hj => by
      unfold Addr.add
      rw [if_neg (by omega)]
    rw [← pl 1 (by omega), ← pl 2 (by omega), ← pl 3 (by omega), ← pl 4 (by omega)]
    exact ⟨by simpa [Addr.add] using q 0 _ (by omega) rfl, q 1 _ (by omega) rfl, q 2 _ (by omega) rfl, q 3 _ (by omega) rfl, q 4 _ (by omega) rfl⟩
end
end Go.Proofs.Ytgmghfgcpjpigaa
