/- What the statements on digests share: the table of the rounds as the program's text lays it. -/
import Derived.Test.YtojfblkmhdgjeaaDoorDigU
import Derived.Test.YtojfblkmhdgjeaaDoorLaid
import Derived.Test.YtojfblkmhdgjeaaDoorCards
import Derived.Test.YtojfblkmhdgjeaaDoorTie
namespace Go.Proofs.YtojfblkmhdgjeaaDoor
open Go.RowKit Go.ChangeShapes Go.WideShapes Go.ChangeAt
theorem own : ownKnob Tryd.prog.godebug = none := by kernel_rfl
theorem laidOut : laidOutB Tryd.prog = true := by kernel_rfl
theorem gTab : Tryd.prog.globalNamed "newswire/digest.rounds" = some 0 := by kernel_rfl
theorem gTabType : (Tryd.prog.globals[0]?).map (·.type) = some 54 := by kernel_rfl
theorem flatTab : leafsOf Tryd.prog 5 54 = some (List.replicate 64 (some (some .u32))) := by kernel_rfl

theorem tab {W : World} (h : laidMet Tryd.prog [("newswire/digest.rounds", Rows.laid_newswire_digest_rounds)] W) : Tab W := by
  have hc := laid_cells 5 (name := "newswire/digest.rounds") (d := Rows.laid_newswire_digest_rounds) h (by simp) gTab gTabType flatTab
  refine ⟨?_, fun i hi => ?_⟩
  · exact World.block_lt_of_cell? W ⟨0, 0, none⟩ (hc 0)
  · have e : dataCells 5 (Rows.laid_newswire_digest_rounds (H := Unit)) = Sha.K.map (fun n => Value.int .u32 ((n : Nat) : Int)) := rfl
    have hl : i < Sha.K.length := hi
    rw [hc i, e, List.getElem?_map, List.getElem?_eq_getElem hl]
    simp [List.getD, hl]

/-- A world for the witness: the table holds what its initialiser lays. -/
noncomputable def laidWorld (os : Os) : World :=
  { World.holding Tryd.prog os ⟨#[], #[], []⟩ with heap := (World.holding Tryd.prog os ⟨#[], #[], []⟩).heap.modify 0 fun
      | .cells _ t frozen => .cells ⟨dataCells 5 (Rows.laid_newswire_digest_rounds (H := Unit))⟩ t frozen
      | o => o }

/-! ### own slices in laws -/
theorem OwnS.next {w w' : World} {B : Nat} {v : Value} {xs : List ByteArray} (h : OwnS w B v xs) (hb : Below w.heap.size w w') : OwnS w' B v xs := below_own h hb
theorem OwnS.form {w : World} {B : Nat} {v : Value} {xs : List ByteArray} (h : OwnS w B v xs) : ∃ o c, v = .slice o xs.length c ∧ xs.length ≤ c ∧ c ≤ maxLen ∧ (o = none → xs.length = 0 ∧ c = 0) := own_form h
theorem OwnS.sl {w : World} {B : Nat} {o : Option Addr} {c : Nat} {xs : List ByteArray} (h : OwnS w B (.slice o xs.length c) xs) : StrSl w o xs := own_str h
theorem OwnS.parts {w : World} {B : Nat} {o : Option Addr} {c : Nat} {xs : List ByteArray} (h : OwnS w B (.slice o xs.length c) xs) : (o = none ∧ c = 0 ∧ xs = []) ∨ ∃ g, o = some ⟨g, 0, none⟩ ∧ g < w.heap.size ∧ ∀ j x, xs[j]? = some x → w.cell? ⟨g, 0 + j, none⟩ = some (.string x) := by
  rcases h.2 with ⟨e, h0⟩ | ⟨g, cap, cur, e, _, hb, _⟩
  · obtain ⟨h1, _, h2⟩ := Value.slice.inj e
    exact .inl ⟨h1, h2, List.eq_nil_of_length_eq_zero h0⟩
  · obtain ⟨h1, _, _⟩ := Value.slice.inj e
    rcases h.sl with rfl | ⟨b, off, e2, hl, hc⟩
    · exact .inr ⟨g, h1, (Array.getElem?_eq_some_iff.1 hb).1, fun j x hx => by simp at hx⟩
    · rw [e2] at h1
      cases h1
      exact .inr ⟨g, e2, hl, hc⟩
theorem OwnS.lower {w : World} {B C : Nat} {v : Value} {xs : List ByteArray} (h : OwnS w B v xs) (hC : C ≤ B) : OwnS w C v xs := by
  refine ⟨h.1, ?_⟩
  rcases h.2 with h1 | ⟨g, cap, cur, e, hg, h2⟩
  · exact .inl h1
  · exact .inr ⟨g, cap, cur, e, Nat.le_trans hC hg, h2⟩
theorem drop_sl {w : World} {b off : Nat} {xs : List ByteArray} (k : Nat) (h : StrSl w (some ⟨b, off, none⟩) xs) : StrSl w (some ⟨b, off + k, none⟩) (xs.drop k) := by
  rcases h with rfl | ⟨b', off', e, hl, hc⟩
  · exact .inl (by simp)
  · cases e
    exact .inr ⟨b, off + k, rfl, hl, fun j x hx => by rw [List.getElem?_drop] at hx; rw [Nat.add_assoc]; exact hc _ x hx⟩
end Go.Proofs.YtojfblkmhdgjeaaDoor
