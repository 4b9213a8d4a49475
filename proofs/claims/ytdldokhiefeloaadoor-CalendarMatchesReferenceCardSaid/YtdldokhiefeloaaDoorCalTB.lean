/- There and back: what is printed is read, what is read is printed; plain mathematics. -/
import Derived.Test.YtdldokhiefeloaaDoorCalSp
import Derived.Test.YtdldokhiefeloaaDoorCalOB
namespace Go.Proofs.YtdldokhiefeloaaDoor
open Go.RowKit

theorem date_pieces (c : Civ) (hy : 0 ≤ c.y ∧ c.y ≤ 9999) (hm : 0 ≤ c.m ∧ c.m ≤ 99) (hd : 0 ≤ c.d ∧ c.d ≤ 99) : pieces (dateS c) dash = [padS (c.y / 100) ++ padS (c.y % 100), padS c.m, padS c.d] := by
  refine pieces_of (c := 45) ?_
  rw [date_bytes, show padL (c.y / 100) ++ (padL (c.y % 100) ++ ([45] ++ (padL c.m ++ ([45] ++ padL c.d)))) = (padL (c.y / 100) ++ padL (c.y % 100)) ++ 45 :: (padL c.m ++ 45 :: padL c.d) by simp, splitL_app, splitL_app, splitL_none]
  · simp only [List.map_cons, List.map_nil, app_list]
    rfl
  · exact padL_mem hd (by decide)
  · exact padL_mem hm (by decide)
  · intro h
    rcases List.mem_append.1 h with h | h
    · exact padL_mem (by omega) (by decide) h
    · exact padL_mem (by omega) (by decide) h
theorem clock_pieces (c : Civ) (hh : 0 ≤ c.h ∧ c.h ≤ 99) (hn : 0 ≤ c.n ∧ c.n ≤ 99) : pieces (clockS c) colon = [padS c.h, padS c.n] := by
  refine pieces_of (c := 58) ?_
  rw [clock_bytes, show padL c.h ++ ([58] ++ padL c.n) = padL c.h ++ 58 :: padL c.n by simp, splitL_app, splitL_none]
  · rfl
  · exact padL_mem hn (by decide)
  · exact padL_mem hh (by decide)
theorem read_of (c : Civ) (hy : 0 ≤ c.y ∧ c.y ≤ 9999) (hm : 0 ≤ c.m ∧ c.m ≤ 99) (hd : 0 ≤ c.d ∧ c.d ≤ 99) (hh : 0 ≤ c.h ∧ c.h ≤ 99) (hn : 0 ≤ c.n ∧ c.n ≤ 99) :
    dateOk (dateS c) = true ∧ clockOk (clockS c) = true ∧ readC (dateS c) (clockS c) = { c with w := 0 } := by
  have p1 := date_pieces c hy hm hd
  have p2 := clock_pieces c hh hn
  have e1 := digits_pad4 hy
  have e2 := digits_pad hm
  have e3 := digits_pad hd
  have e4 := digits_pad hh
  have e5 := digits_pad hn
  have s4 : (padS (c.y / 100) ++ padS (c.y % 100)).size = 4 := by rw [ByteArray.size_append]; rfl
  refine ⟨?_, ?_, ?_⟩
  · unfold dateOk fieldsB
    rw [p1]
    have r : List.range [(4 : Int), 2, 2].length = [0, 1, 2] := rfl
    rw [r]
    simp only [List.all_cons, List.all_nil, Bool.and_true]
    unfold goodP
    rw [show pieceAt [padS (c.y / 100) ++ padS (c.y % 100), padS c.m, padS c.d] 0 = padS (c.y / 100) ++ padS (c.y % 100) from rfl, show pieceAt [padS (c.y / 100) ++ padS (c.y % 100), padS c.m, padS c.d] 1 = padS c.m from rfl,
      show pieceAt [padS (c.y / 100) ++ padS (c.y % 100), padS c.m, padS c.d] 2 = padS c.d from rfl, e1, e2, e3, s4]
    rfl
  · unfold clockOk fieldsB
    rw [p2]
    have r : List.range [(2 : Int), 2].length = [0, 1] := rfl
    rw [r]
    simp only [List.all_cons, List.all_nil, Bool.and_true]
    unfold goodP
    rw [show pieceAt [padS c.h, padS c.n] 0 = padS c.h from rfl, show pieceAt [padS c.h, padS c.n] 1 = padS c.n from rfl, e4, e5]
    rfl
  · unfold readC dv
    rw [p1, p2, show pieceAt [padS (c.y / 100) ++ padS (c.y % 100), padS c.m, padS c.d] 0 = padS (c.y / 100) ++ padS (c.y % 100) from rfl, show pieceAt [padS (c.y / 100) ++ padS (c.y % 100), padS c.m, padS c.d] 1 = padS c.m from rfl,
      show pieceAt [padS (c.y / 100) ++ padS (c.y % 100), padS c.m, padS c.d] 2 = padS c.d from rfl, show pieceAt [padS c.h, padS c.n] 0 = padS c.h from rfl, show pieceAt [padS c.h, padS c.n] 1 = padS c.n from rfl, e1, e2, e3, e4, e5]
theorem at_w (c : Civ) (x o : Int) : atR { c with w := x } o = atR c o := rfl
theorem at_back {m o : Int} (hm : 0 ≤ m ∧ m ≤ 50000000) (ho : -840 ≤ o ∧ o ≤ 840) : atR (civOf (m + o)) o = (m, true) := by
  obtain ⟨hd, hl⟩ := civ_back (L := m + o) (by omega) (by omega)
  unfold atR
  rw [if_pos hd, hl, wrap_in (by omega), show m + o - o = m by omega]
  unfold minuteB
  simp
  omega
theorem read_back {m o : Int} (hm : 0 ≤ m ∧ m ≤ 50000000) (ho : -840 ≤ o ∧ o ≤ 840) : readR (dateS (civOf (m + o))) (clockS (civOf (m + o))) o = (m, 0) := by
  obtain ⟨g, e1, _⟩ := parts_ok hm ho
  have hin := parts_in g
  rw [e1] at hin
  obtain ⟨r1, r2, r3⟩ := read_of (civOf (m + o)) (by omega) (by omega) (by omega) (by omega) (by omega)
  rw [Bool.and_eq_true] at g
  unfold readR
  rw [r3, at_w, at_back hm ho, if_pos ⟨g.2, r1, r2, rfl⟩]

/-! ### what is read was printed -/
theorem at_ok {c : Civ} {o : Int} (ho : -840 ≤ o ∧ o ≤ 840) (h : (atR c o).2 = true) : dateB c = true ∧ (atR c o).1 = locOf c - o ∧ 0 ≤ locOf c - o ∧ locOf c - o ≤ 50000000 := by
  unfold atR at h ⊢
  split at h
  next hd =>
    obtain ⟨_, b1, b2⟩ := loc_civ hd
    dsimp only at h
    rw [wrap_in (by omega)] at h
    rw [if_pos hd]
    dsimp only
    rw [wrap_in (by omega)]
    unfold minuteB at h
    simp at h
    exact ⟨hd, rfl, by omega, by omega⟩
  next hd => cases h
theorem off_in {o : Int} (h : offsetB o = true) : -840 ≤ o ∧ o ≤ 840 := by unfold offsetB at h; simpa using h
theorem minute_ok {c : Civ} {o : Int} (h : (minuteR c o).2 = 0) : partsR (minuteR c o).1 o = c ∧ partsE (minuteR c o).1 o = 0 := by
  unfold minuteR at h ⊢
  split at h
  next hc =>
    rw [if_pos hc]
    dsimp only
    obtain ⟨h1, h2, h3⟩ := hc
    have ho := off_in h1
    obtain ⟨d1, d2, d3, d4⟩ := at_ok ho h2
    rw [d2] at h3 ⊢
    obtain ⟨_, p1, p2⟩ := parts_ok (m := locOf c - o) (o := o) (by omega) ho
    rw [p1, show locOf c - o + o = locOf c by omega, (loc_civ d1).1] at h3
    refine ⟨?_, p2⟩
    rw [p1, show locOf c - o + o = locOf c by omega, (loc_civ d1).1]
    dsimp only at h3
    have := bne_eq_false_iff_eq.1 h3
    rw [this]
  next hc => cases h
theorem list3 {α : Type} {l : List α} (h : l.length = 3) : ∃ a b c, l = [a, b, c] := by
  match l, h with
  | [a, b, c], _ => exact ⟨a, b, c, rfl⟩
theorem list2 {α : Type} {l : List α} (h : l.length = 2) : ∃ a b, l = [a, b] := by
  match l, h with
  | [a, b], _ => exact ⟨a, b, rfl⟩
theorem size_of_good {n : Nat} {k : Int} (h : (!((n : Int) != k)) = true) : (n : Int) = k := by simpa using h
theorem date_read {s : ByteArray} (h : dateOk s = true) (x y z : Int) : s = dateS ⟨dv s dash 0, dv s dash 1, dv s dash 2, x, y, z⟩ := by
  unfold dateOk fieldsB at h
  rw [Bool.and_eq_true, beq_iff_eq] at h
  obtain ⟨p0, p1, p2, hp⟩ := list3 h.1
  have h2 := h.2
  have r : List.range [(4 : Int), 2, 2].length = [0, 1, 2] := rfl
  rw [r] at h2
  simp only [List.all_cons, List.all_nil, Bool.and_true, Bool.and_eq_true] at h2
  unfold goodP at h2
  rw [hp] at h2
  simp only [Bool.and_eq_true] at h2
  obtain ⟨⟨g0, z0⟩, ⟨g1, z1⟩, g2, z2⟩ := h2
  have w0 : p0.size = 4 := by have := size_of_good z0; change (p0.size : Int) = 4 at this; omega
  have w1 : p1.size = 2 := by have := size_of_good z1; change (p1.size : Int) = 2 at this; omega
  have w2 : p2.size = 2 := by have := size_of_good z2; change (p2.size : Int) = 2 at this; omega
  obtain ⟨e0, _⟩ := pad_digits4 w0 g0
  obtain ⟨e1, _⟩ := pad_digits w1 g1
  obtain ⟨e2, _⟩ := pad_digits w2 g2
  have hj := join_splitL 45 _ s.data.toList (Nat.le_refl _)
  rw [← pieces_list s 45, show pieces s ⟨#[45]⟩ = [p0, p1, p2] from hp] at hj
  unfold dv
  rw [show pieces s dash = [p0, p1, p2] from hp]
  unfold dateS
  dsimp only
  rw [show pieceAt [p0, p1, p2] 0 = p0 from rfl, show pieceAt [p0, p1, p2] 1 = p1 from rfl, show pieceAt [p0, p1, p2] 2 = p2 from rfl, ← e0, ← e1, ← e2]
  exact bytes_eq hj.symm
theorem clock_read {s : ByteArray} (h : clockOk s = true) (x y z u : Int) : s = clockS ⟨x, y, z, dv s colon 0, dv s colon 1, u⟩ := by
  unfold clockOk fieldsB at h
  rw [Bool.and_eq_true, beq_iff_eq] at h
  obtain ⟨p0, p1, hp⟩ := list2 h.1
  have h2 := h.2
  have r : List.range [(2 : Int), 2].length = [0, 1] := rfl
  rw [r] at h2
  simp only [List.all_cons, List.all_nil, Bool.and_true, Bool.and_eq_true] at h2
  unfold goodP at h2
  rw [hp] at h2
  simp only [Bool.and_eq_true] at h2
  obtain ⟨⟨g0, z0⟩, g1, z1⟩ := h2
  have w0 : p0.size = 2 := by have := size_of_good z0; change (p0.size : Int) = 2 at this; omega
  have w1 : p1.size = 2 := by have := size_of_good z1; change (p1.size : Int) = 2 at this; omega
  obtain ⟨e0, _⟩ := pad_digits w0 g0
  obtain ⟨e1, _⟩ := pad_digits w1 g1
  have hj := join_splitL 58 _ s.data.toList (Nat.le_refl _)
  rw [← pieces_list s 58, show pieces s ⟨#[58]⟩ = [p0, p1] from hp] at hj
  unfold dv
  rw [show pieces s colon = [p0, p1] from hp]
  unfold clockS
  dsimp only
  rw [show pieceAt [p0, p1] 0 = p0 from rfl, show pieceAt [p0, p1] 1 = p1 from rfl, ← e0, ← e1]
  refine bytes_eq ?_
  rw [← hj, app_list, app_list, List.map_cons, Lib.join_cons]
  simp [Lib.joinTail, colon]
theorem read_ok {d t : ByteArray} {o : Int} (h : (readR d t o).2 = 0) : printR (readR d t o).1 o = (d, t, 0) := by
  unfold readR at h ⊢
  split at h
  next hc =>
    rw [if_pos hc]
    dsimp only
    obtain ⟨h1, h2, h3, h4⟩ := hc
    have ho := off_in h1
    obtain ⟨d1, d2, d3, d4⟩ := at_ok ho h4
    rw [d2]
    obtain ⟨p0, p1, p2⟩ := parts_ok (m := locOf (readC d t) - o) (o := o) (by omega) ho
    unfold printR
    rw [if_pos p0, p1, show locOf (readC d t) - o + o = locOf (readC d t) by omega, (loc_civ d1).1]
    have e1 := date_read h2 (dv t colon 0) (dv t colon 1) ((firstM (kOf (readC d t).y (readC d t).m).toNat + (readC d t).d + 11) % 7)
    have e2 := clock_read h3 (dv d dash 0) (dv d dash 1) (dv d dash 2) ((firstM (kOf (readC d t).y (readC d t).m).toNat + (readC d t).d + 11) % 7)
    exact congr (congrArg Prod.mk e1.symm) (congr (congrArg Prod.mk e2.symm) rfl)
  next hc => cases h
theorem read_bad {d t : ByteArray} {o : Int} (h : (readR d t o).2 ≠ 0) : readR d t o = (0, 60) := by
  unfold readR at h ⊢
  split at h
  next hc => exact absurd rfl h
  next hc => rw [if_neg hc]
theorem minute_bad {c : Civ} {o : Int} (h : (minuteR c o).2 ≠ 0) : (minuteR c o).2 = 60 := by
  unfold minuteR at h ⊢
  split at h
  next hc => exact absurd rfl h
  next hc => rw [if_neg hc]
end Go.Proofs.YtdldokhiefeloaaDoor
