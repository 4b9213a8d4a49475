/- What the statements on books share: parameters that are books and slices of five numbers. -/
import Derived.Test.YtnhlhoijajhcjaaBkT
import Derived.Test.YtnhlhoijajhcjaaFlats
import Derived.Test.YtnhlhoijajhcjaaLaid
import Derived.Deep.DeepCutAuto
set_option linter.unusedVariables false
set_option linter.unusedSimpArgs false
namespace Go.Proofs.Ytnhlhoijajhcjaa
open Go.RowKit Go.ChangeShapes Go.WideShapes Go.ChangeAt
theorem own : ownKnob Try.prog.godebug = none := by kernel_rfl
theorem laidOut : laidOutB Try.prog = true := by kernel_rfl
/-- A world for the witness. -/
noncomputable def laidWorld (os : Os) : World := World.holding Try.prog os ⟨#[], #[], []⟩
namespace Bk
open Sq
section
variable {H : Type} {enc : TypeId × Value → H} {P : Program} {W : World} {base b0 : Nat} {spare : Nat → Bool} {held : Bool}
theorem open_elS {α : Type} [Inhabited α] (E : El α) (fit : α → Prop) {t e : TypeId} {l : List Leaf} (n : Nat) {fuel : Nat} {cs : List Value} {x : DataW H × List MemPlace} (ht : P.underlying t = some (.slice e)) (hl : leafsOf P n e = some l) (hc : P.cellsOf e = E.k)
    (hE : ∀ cs, Fits l cs → ∃ x, cs = E.f x ∧ fit x) (h : DataW.trod enc P W base spare held fuel t cs = some x) :
    ∃ (o : Option Addr) (N c : Nat) (L : List α), cs = [.slice o N c] ∧ L.length = N ∧ N ≤ c ∧ c ≤ maxLen ∧ (o = none → c = 0) ∧ (∀ x ∈ L, fit x) ∧ Sl E W o L := by
  rcases Go.Deep.open_slice ht h with ⟨h1, _⟩ | ⟨a, len, cap, m, k, D, Pl, h1, _, h2, h3, h4, _, h5⟩
  · exact ⟨none, 0, 0, [], h1, rfl, Nat.le_refl _, Nat.zero_le _, fun _ => rfl, fun x hx => (by cases hx), .inl rfl⟩
  · have hlm : len ≤ m := by rw [h4]; split <;> omega
    have h6 : ∀ i, ∃ y : α, i < m → W.cells? base (a.add (i * E.k)) E.k = some (E.f y) ∧ fit y := fun i => by
      by_cases hi : i < m
      · obtain ⟨cs', x1, x2⟩ := h5 i hi
        obtain ⟨y, rfl, hy⟩ := hE _ (fits_of_trod n e l _ _ _ hl x2)
        rw [hc] at x1
        exact ⟨y, fun _ => ⟨x1, hy⟩⟩
      · exact ⟨default, fun h => absurd h hi⟩
    obtain ⟨L, hL⟩ := Classical.skolem.1 h6
    refine ⟨some a, len, cap, (List.range len).map L, h1, by simp, h2, h3, fun h => (by cases h), fun x hx => ?_, ?_⟩
    · obtain ⟨i, hi, rfl⟩ := List.mem_map.1 hx
      exact (hL i (by have := List.mem_range.1 hi; omega)).2
    · by_cases h0 : len = 0
      · subst h0
        exact .inl rfl
      · have cell : ∀ i, i < len → ∀ (j : Nat) v, (E.f (L i))[j]? = some v → W.cell? (a.add (i * E.k + j)) = some v := fun i hi j v hv => by
          obtain ⟨x1, _⟩ := hL i (by omega)
          have hj : j < (E.f (L i)).length := (List.getElem?_eq_some_iff.1 hv).1
          have := (World.cells?_some x1).2.2 j (by rw [E.len] at hj; exact hj)
          rw [addr_add_add] at this
          rw [this]
          exact hv
        obtain ⟨v0, hv0⟩ : ∃ v, (E.f (L 0))[0]? = some v := ⟨_, List.getElem?_eq_getElem (by rw [E.len]; exact E.pos)⟩
        have c0 := cell 0 (by omega) 0 v0 hv0
        have hs : a.spot = none := by
          have := World.cell?_spot c0
          simpa [Addr.add] using this
        obtain ⟨b, off, sp⟩ := a
        dsimp only at hs
        subst hs
        refine .inr ⟨b, off, rfl, ?_, fun j x hx i v hv => ?_⟩
        · have := cell_lies c0
          simpa [Addr.add] using this
        · rw [List.getElem?_map] at hx
          by_cases hj : j < len
          · rw [List.getElem?_range hj] at hx
            cases hx
            have := cell j hj i v hv
            rw [add_lit] at this
            rw [Nat.add_assoc]
            exact this
          · rw [List.getElem?_eq_none (by simp; omega)] at hx
            cases hx
instance : Inhabited Po := ⟨p0⟩
instance : Inhabited F5 := ⟨⟨0, 0, 0, 0, 0⟩⟩
theorem po_fits (cs : List Value) (h : Fits [some (some .i64), some (some .i64), some (some .i64), some (some .i64), some (some .i64), some (some .i64), some (some .i64)] cs) : ∃ p : Po, cs = poE.f p ∧ p.fit := by
  obtain ⟨_, _, h0, ⟨a, rfl, ha⟩, _, _, rfl, ⟨b, rfl, hb⟩, _, _, rfl, ⟨c, rfl, hc⟩, _, _, rfl, ⟨d, rfl, hd⟩, _, _, rfl, ⟨e, rfl, he⟩, _, _, rfl, ⟨f, rfl, hf⟩, _, _, rfl, ⟨g, rfl, hg⟩, h6⟩ := h
  cases h6
  exact ⟨⟨a, b, c, d, e, f, g⟩, h0, bd_i64 ha, bd_i64 hb, bd_i64 hc, bd_i64 hd, bd_i64 he, bd_i64 hf, bd_i64 hg⟩
theorem f5_fits (cs : List Value) (h : Fits [some (some .i64), some (some .i64), some (some .i64), some (some .i64), some (some .i64)] cs) : ∃ p : F5, cs = f5E.f p ∧ p.fit := by
  obtain ⟨_, _, h0, ⟨a, rfl, ha⟩, _, _, rfl, ⟨b, rfl, hb⟩, _, _, rfl, ⟨c, rfl, hc⟩, _, _, rfl, ⟨d, rfl, hd⟩, _, _, rfl, ⟨e, rfl, he⟩, h6⟩ := h
  cases h6
  exact ⟨⟨a, b, c, d, e⟩, h0, bd_i64 ha, bd_i64 hb, bd_i64 hc, bd_i64 hd, bd_i64 he⟩
end
/-- five numbers, many times -/
def Fv (w : World) (o : Option Addr) (n : Nat) (L : List F5) : Prop := L.length = n ∧ n ≤ 9223372036854775807 ∧ (∀ x ∈ L, x.fit) ∧ Sl f5E w o L
theorem Fv.next {w w' : World} {o : Option Addr} {n : Nat} {L : List F5} (h : Fv w o n L) (hb : Below w.heap.size w w') : Fv w' o n L := ⟨h.1, h.2.1, h.2.2.1, h.2.2.2.next hb⟩
end Bk
section
variable {H : Type} {enc : TypeId × Value → H} {W : World} {base b0 : Nat} {spare : Nat → Bool} {held : Bool}
theorem open_fives {r : Reach} {v : Value} {d : DataW H} {ps : List MemPlace} (hval : Value.okWide Try.prog W r b0 25 v) (hd : DataW.Trod enc Try.prog W base spare held 25 v d ps) :
    ∃ (o : Option Addr) (N c : Nat) (L : List Bk.F5), v = .slice o N c ∧ Bk.Fv W o N L := by
  obtain ⟨o, len, cap, rfl⟩ := okWide_slice Try.underlying25 hval
  obtain ⟨fuel, hf⟩ := hd
  obtain ⟨o', N, c, L, h1, h2, h3, h4, h5, h6, h7⟩ := Bk.open_elS Bk.f5E Bk.F5.fit 5 Try.underlying25 (by kernel_rfl) (by kernel_rfl) Bk.f5_fits hf
  simp [Value.cells] at h1
  obtain ⟨rfl, rfl, rfl⟩ := h1
  exact ⟨o, len, cap, L, rfl, h2, (by unfold maxLen at h4; omega), h6, h7⟩
theorem take_one' {cs : List Value} {j : Nat} {v : Value} (h : (cs.drop j).take 1 = [v]) : cs[j]? = some v := by
  have : ((cs.drop j).take 1)[0]? = some v := by rw [h]; rfl
  simpa [List.getElem?_take, List.getElem?_drop] using this
theorem open_book {P : Program} {r : Reach} {t pe : TypeId} {f0 f1 f2 : Field} {v : Value} {d : DataW H} {ps : List MemPlace} (ht : P.underlying t = some (.struct #[f0, f1, f2])) (hc : P.cellsOf t = 3) (ho : [f0.offset, f1.offset, f2.offset] = [0, 1, 2]) (hz : [f0, f1, f2].all (fun f => P.cellsOf f.type == 1) = true)
    (h0 : P.underlying f0.type = some (.int .i64)) (h1 : P.underlying f1.type = some (.slice pe)) (h2 : P.underlying f2.type = some (.int .i64)) (hl : leafsOf P 5 pe = some [some (some .i64), some (some .i64), some (some .i64), some (some .i64), some (some .i64), some (some .i64), some (some .i64)]) (hk : P.cellsOf pe = 7)
    (hval : Value.okWide P W r b0 t v) (hd : DataW.Trod enc P W base spare held t v d ps) :
    ∃ (acc cl : Int) (o : Option Addr) (N c : Nat) (L : List Bk.Po), v = .agg #[.int .i64 acc, .slice o N c, .int .i64 cl] ∧ Bk.inI acc ∧ Bk.inI cl ∧ (∀ p ∈ L, p.fit) ∧ Bk.BkW W o N c L := by
  obtain ⟨fuel, hf⟩ := hd
  have hv : ∃ cs : Array Value, v = .agg cs := by
    unfold Value.okWide at hval
    rw [ht] at hval
    obtain ⟨cs, e, _⟩ := hval
    exact ⟨cs, e⟩
  obtain ⟨cs, rfl⟩ := hv
  obtain ⟨xs, n, _, _, hlen, hxl, hg⟩ := DataW.trod_struct ht hf
  rw [hc] at hlen
  simp only [List.cons.injEq, and_true] at ho
  obtain ⟨o0, o1, o2⟩ := ho
  simp only [List.all_cons, List.all_nil, Bool.and_true, Bool.and_eq_true, beq_iff_eq] at hz
  obtain ⟨z0, z1, z2⟩ := hz
  have hx : ∀ i, i < 3 → ∃ y, xs[i]? = some y := fun i hi => ⟨_, List.getElem?_eq_getElem (by rw [hxl]; exact hi)⟩
  obtain ⟨y0, e0⟩ := hx 0 (by omega)
  obtain ⟨y1, e1⟩ := hx 1 (by omega)
  obtain ⟨y2, e2⟩ := hx 2 (by omega)
  have g0 := hg 0 f0 rfl
  have g1 := hg 1 f1 rfl
  have g2 := hg 2 f2 rfl
  rw [o0, z0, e0] at g0
  rw [o1, z1, e1] at g1
  rw [o2, z2, e2] at g2
  obtain ⟨v0, q0, _, w0⟩ := DataW.trod_int h0 g0
  obtain ⟨v2, q2, _, w2⟩ := DataW.trod_int h2 g2
  obtain ⟨o, N, c, L, q1, l1, l2, l3, l4, l5, l6⟩ := Bk.open_elS Bk.poE Bk.Po.fit 5 h1 hl hk Bk.po_fits g1
  have k0 := take_one' q0
  have k1 := take_one' q1
  have k2 := take_one' q2
  refine ⟨v0, v2, o, N, c, L, ?_, bd_i64 w0, bd_i64 w2, l5, l1, l2, (by unfold maxLen at l3; omega), l4, l6⟩
  congr 1
  obtain ⟨cs⟩ := cs
  have hlen' : cs.length = 3 := hlen
  have k0' : cs[0]? = some (.int .i64 v0) := k0
  have k1' : cs[1]? = some (.slice o N c) := k1
  have k2' : cs[2]? = some (.int .i64 v2) := k2
  match cs, hlen' with
  | [a0, a1, a2], _ => simp_all
end
end Go.Proofs.Ytnhlhoijajhcjaa
