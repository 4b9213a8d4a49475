/- Numbers with signs: where they are stored; parse, minus. -/
import Derived.Test.YtjhnfejlkljkjaaGreatDoorIntQ
namespace Go.Proofs.YtjhnfejlkljkjaaGreatDoor
open Go.RowKit

abbrev zeroN : List Value := [.slice none 0 0, .bool false]
/-- a store into a variable that holds a number is none into groups -/
theorem LSl.set2 {w : World} {b i : Nat} {t : TypeId} {s : Option Addr} {n c : Nat} {x : Bool} {o : Option Addr} {l : List Nat} (hR : Row w b t [.slice s n c, .bool x]) (h : LSl w o l) (v : Value) : LSl (w.setCell ⟨b, i, none⟩ v) o l := by
  rcases h with h | ⟨p, off, rfl, hp, hc⟩
  · exact .inl h
  · refine .inr ⟨p, off, rfl, by simpa using hp, fun j y hy => ?_⟩
    have h1 := hc j y hy
    have hpb : b ≠ p := by
      rintro rfl
      rw [hR.cell] at h1
      cases hj : off + j with
      | zero => rw [hj] at h1; cases h1
      | succ i =>
        rw [hj] at h1
        cases i with
        | zero => cases h1
        | succ i => simp at h1
    rw [World.cell?_setCell_far _ _ _ _ hpb]
    exact h1
theorem NumV.form {w : World} {v : Value} {z : Int} (h : NumV w v z) : ∃ o L c s, v = .agg #[.slice o L c, .bool s] ∧ NSl w (.slice o L c) z.natAbs ∧ (In.gs z.natAbs).length = L ∧ In.neg z = s := by
  obtain ⟨s, rfl, h⟩ := h
  obtain ⟨o, c, rfl, _⟩ := h.ex
  exact ⟨o, _, c, _, rfl, h, rfl, rfl⟩
theorem NumV.mk' {w : World} {o : Option Addr} {L c : Nat} {s : Bool} {z : Int} (h : NSl w (.slice o L c) z.natAbs) (hs : In.neg z = s) : NumV w (.agg #[.slice o L c, .bool s]) z := ⟨_, by rw [hs], h⟩
/-- a number is stored -/
theorem num_store {w : World} {b : Nat} {t : TypeId} {s o : Option Addr} {n c L k : Nat} {x y : Bool} {z : Int} (hR : Row w b t [.slice s n c, .bool x]) (h : NumV w (.agg #[.slice o L k, .bool y]) z) :
    NumV ((w.setCell ⟨b, 0, none⟩ (.slice o L k)).setCell ⟨b, 1, none⟩ (.bool y)) (.agg #[.slice o L k, .bool y]) z ∧ Below b w ((w.setCell ⟨b, 0, none⟩ (.slice o L k)).setCell ⟨b, 1, none⟩ (.bool y)) ∧ Row ((w.setCell ⟨b, 0, none⟩ (.slice o L k)).setCell ⟨b, 1, none⟩ (.bool y)) b t [.slice o L k, .bool y] := by
  obtain ⟨s', e, h1⟩ := h
  cases e
  obtain ⟨o', c', e', h2, h3, h4, h5⟩ := h1.ex
  cases e'
  refine ⟨⟨_, rfl, ⟨_, _, rfl, h2, h3, h4, ?_⟩⟩, ((Below.refl _ _).setCell (p := ⟨b, 0, none⟩) (Nat.le_refl _) _).setCell (p := ⟨b, 1, none⟩) (Nat.le_refl _) _, (hR.set 0 _).set 1 _⟩
  exact LSl.set2 (hR.set 0 (.slice o _ k)) (LSl.set2 hR h5 _) _
theorem NSl.store {w : World} {b i : Nat} {t : TypeId} {s : Option Addr} {n c m : Nat} {x : Bool} {v u : Value} (hR : Row w b t [.slice s n c, .bool x]) (h : NSl w v m) : NSl (w.setCell ⟨b, i, none⟩ u) v m := by
  obtain ⟨o', c', rfl, h2, h3, h4, h5⟩ := h.ex
  exact ⟨_, _, rfl, h2, h3, h4, LSl.set2 hR h5 _⟩
theorem NumV.store {w : World} {b i : Nat} {t : TypeId} {s : Option Addr} {n c : Nat} {x : Bool} {v u : Value} {z : Int} (hR : Row w b t [.slice s n c, .bool x]) (h : NumV w v z) : NumV (w.setCell ⟨b, i, none⟩ u) v z := by
  obtain ⟨s', rfl, h⟩ := h
  exact ⟨s', rfl, h.store hR⟩
theorem boxes1 (w : World) (t : TypeId) (C D : List Value) : Row ((w.alloc (.cells C.toArray t)).alloc (.cells D.toArray t)) w.heap.size t C ∧ Row ((w.alloc (.cells C.toArray t)).alloc (.cells D.toArray t)) (w.heap.size + 1) t D ∧ Below w.heap.size w ((w.alloc (.cells C.toArray t)).alloc (.cells D.toArray t)) := by
  refine ⟨(Row.new w t C).alloc _, ?_, ((Below.refl _ _).alloc (Nat.le_refl _) _).alloc (by simp) _⟩
  have := Row.new (w.alloc (.cells C.toArray t)) t D
  rwa [World.size_alloc] at this
theorem boxes2 (w : World) (t : TypeId) (C D E : List Value) : Row (((w.alloc (.cells C.toArray t)).alloc (.cells D.toArray t)).alloc (.cells E.toArray t)) w.heap.size t C ∧ Row (((w.alloc (.cells C.toArray t)).alloc (.cells D.toArray t)).alloc (.cells E.toArray t)) (w.heap.size + 1) t D ∧
    Row (((w.alloc (.cells C.toArray t)).alloc (.cells D.toArray t)).alloc (.cells E.toArray t)) (w.heap.size + 1 + 1) t E ∧ Below w.heap.size w (((w.alloc (.cells C.toArray t)).alloc (.cells D.toArray t)).alloc (.cells E.toArray t)) := by
  obtain ⟨h1, h2, h3⟩ := boxes1 w t C D
  refine ⟨h1.alloc _, h2.alloc _, ?_, h3.alloc (by simp; omega) _⟩
  have := Row.new ((w.alloc (.cells C.toArray t)).alloc (.cells D.toArray t)) t E
  rwa [World.size_alloc, World.size_alloc] at this

set_option maxRecDepth 100000 in
set_option maxHeartbeats 1000000 in
theorem neg_any (u : Value) (z : Int) (w : World) (hu : NumV w u z) :
    Calls Tryz.prog 33 #[u] w fun e w' => ∃ r, e = .returned r ∧ NumV w' r (-z) ∧ Below w.heap.size w w' := by
  obtain ⟨o, L, c, s, rfl, hs, -, hsn⟩ := hu.form
  have HS := Lib.hid hs
  have HZ := Lib.hid (show In.sgn z.natAbs (!s) = -z from by rw [← hsn, ← In.sgn_minus, In.sgn_neg])
  clear hs hsn hu
  go_enter Tryz.func33, Tryz.ntmps33
  go_upto_region 1 with (fail)
  refine wp_named fun w1 hw => ?_
  obtain ⟨b1, hb1⟩ : ∃ x, x = w.heap.size := ⟨_, rfl⟩
  obtain ⟨b2, hb2⟩ : ∃ x, x = w.heap.size + 1 := ⟨_, rfl⟩
  have R1 : Row w1 b1 47 [.slice o L c, .bool s] ∧ Row w1 b2 47 zeroN ∧ Below w.heap.size w w1 := by
    rw [hw, hb1, hb2]
    exact boxes1 w _ [.slice o L c, .bool s] zeroN
  rw [← hb2, ← hb1]
  have HR := Lib.hid R1
  have k0 := (Row.cell R1.1 0).trans (show _ = some (.slice o L c) from rfl)
  have k1 := (Row.cell R1.1 1).trans (show _ = some (.bool s) from rfl)
  have CS := Lib.hid (signed_any (.slice o L c) z.natAbs (!s) w1 (HS.out.next R1.2.2))
  rw [HZ.out] at CS
  have HE := Lib.hid hb2
  clear hw R1 hb1 hb2
  go_wp2_with fail
  refine Calls.mono CS.out ?_
  rintro e w2 ⟨r, rfl, hn, hb⟩
  have hR2 := HR.out.2.1.next hb
  have k2 := (Row.cell hR2 0).trans (show _ = some (.slice none 0 0) from rfl)
  have k3 := (Row.cell hR2 1).trans (show _ = some (.bool false) from rfl)
  have f2 := Row.frozen hR2 0
  have f3 := Row.frozen hR2 1
  obtain ⟨o', L', c', s', rfl, _, _, _⟩ := hn.form
  have HF := Lib.hid (And.intro (num_store hR2 hn) (Below.andThen HR.out.2.2 hb))
  clear hn hb hR2 k0 k1 CS
  go_wp2_with fail
  refine bodyPost_ret (v := .agg #[.slice o' L' c', .bool s']) (by first | (simp [results, Tryz.results33, go_sem]; done) | simp [results, Tryz.results33, go_sem, *]) rfl ⟨_, rfl, HF.out.1.1, HF.out.2.trans (HF.out.1.2.1.mono (by have := HE.out; omega))⟩
end Go.Proofs.YtjhnfejlkljkjaaGreatDoor
