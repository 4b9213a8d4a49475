/- What the reference reads is what is read: plain mathematics. -/
import Derived.Test.YtdldokhiefeloaaDoorCalRG
import Derived.Test.YtdldokhiefeloaaDoorCalRC
namespace Go.Proofs.YtdldokhiefeloaaDoor
open Go.RowKit

theorem parts3 {a b c x y z : List UInt8} {k : UInt8} (h : a ++ k :: (b ++ k :: c) = x ++ k :: (y ++ k :: z)) (h1 : a.length = x.length) (h2 : b.length = y.length) : a = x ∧ b = y ∧ c = z := by
  obtain ⟨e1, e2⟩ := List.append_inj h h1
  obtain ⟨e3, e4⟩ := List.append_inj (List.cons.inj e2).2 h2
  exact ⟨e1, e3, (List.cons.inj e4).2⟩
theorem parts2 {a b x y : List UInt8} {k : UInt8} (h : a ++ k :: b = x ++ k :: y) (h1 : a.length = x.length) : a = x ∧ b = y := by
  obtain ⟨e1, e2⟩ := List.append_inj h h1
  exact ⟨e1, (List.cons.inj e2).2⟩
theorem no_sep {p : ByteArray} (h : (digitsR p).2 = true) {c : UInt8} (hc : c.toNat < 48 ∨ 57 < c.toNat) : c ∉ p.data.toList := by
  intro hm
  unfold digitsR at h
  split at h
  next hd =>
    have := (digB_iff c).1 (List.all_eq_true.1 hd c hm)
    omega
  next hd => cases h
theorem numR_ok {p : ByteArray} (h : (digitsR p).2 = true) : numR p = (digitsR p).1 := by unfold numR; rw [if_pos h]
theorem numR_nonneg {p : ByteArray} (h : 0 ≤ numR p) : (digitsR p).2 = true := by
  unfold numR at h
  split at h
  next hd => exact hd
  next hd => omega
theorem date_iff {s A B C : ByteArray} (hs : s.data.toList = A.data.toList ++ 45 :: (B.data.toList ++ 45 :: C.data.toList)) (hA : A.size = 4) (hB : B.size = 2) (hC : C.size = 2) :
    (dateOk s = true ↔ (digitsR A).2 = true ∧ (digitsR B).2 = true ∧ (digitsR C).2 = true) ∧ (dateOk s = true → dv s dash 0 = numR A ∧ dv s dash 1 = numR B ∧ dv s dash 2 = numR C) := by
  have key : ∀ {p0 p1 p2 : ByteArray}, pieces s ⟨#[45]⟩ = [p0, p1, p2] → p0.size = 4 → p1.size = 2 → p0 = A ∧ p1 = B ∧ p2 = C := by
    intro p0 p1 p2 hp h0 h1
    have hj := join_splitL 45 _ s.data.toList (Nat.le_refl _)
    rw [← pieces_list s 45, hp, hs, List.map_cons, Lib.join_cons] at hj
    have e : p0.data.toList ++ 45 :: (p1.data.toList ++ 45 :: p2.data.toList) = A.data.toList ++ 45 :: (B.data.toList ++ 45 :: C.data.toList) := by
      rw [← hj]
      simp [Lib.joinTail]
    have l0 : p0.data.toList.length = A.data.toList.length := h0.trans hA.symm
    have l1 : p1.data.toList.length = B.data.toList.length := h1.trans hB.symm
    obtain ⟨e0, e1, e2⟩ := parts3 e l0 l1
    exact ⟨bytes_eq e0, bytes_eq e1, bytes_eq e2⟩
  have fwd : dateOk s = true → pieces s dash = [A, B, C] ∧ (digitsR A).2 = true ∧ (digitsR B).2 = true ∧ (digitsR C).2 = true := by
    intro h
    unfold dateOk fieldsB at h
    rw [Bool.and_eq_true, beq_iff_eq] at h
    obtain ⟨p0, p1, p2, hp⟩ := list3 h.1
    have h2 := h.2
    have r : List.range [(4 : Int), 2, 2].length = [0, 1, 2] := rfl
    rw [r] at h2
    simp only [List.all_cons, List.all_nil, Bool.and_true, Bool.and_eq_true] at h2
    unfold goodP at h2
    rw [hp] at h2
    simp only [Bool.and_eq_true] at h2
    obtain ⟨⟨g0, z0⟩, ⟨g1, z1⟩, g2, z2⟩ := h2
    have w0 : p0.size = 4 := by have := size_of_good z0; change (p0.size : Int) = 4 at this; omega
    have w1 : p1.size = 2 := by have := size_of_good z1; change (p1.size : Int) = 2 at this; omega
    obtain ⟨rfl, rfl, rfl⟩ := key hp w0 w1
    exact ⟨hp, g0, g1, g2⟩
  refine ⟨⟨fun h => (fwd h).2, fun ⟨g0, g1, g2⟩ => ?_⟩, fun h => ?_⟩
  · have hp : pieces s dash = [A, B, C] := by
      refine pieces_of (c := 45) ?_
      rw [hs, splitL_app (no_sep g0 (by decide)), splitL_app (no_sep g1 (by decide)), splitL_none (no_sep g2 (by decide))]
      rfl
    unfold dateOk fieldsB
    rw [hp]
    have r : List.range [(4 : Int), 2, 2].length = [0, 1, 2] := rfl
    rw [r]
    simp only [List.all_cons, List.all_nil, Bool.and_true]
    unfold goodP
    rw [show pieceAt [A, B, C] 0 = A from rfl, show pieceAt [A, B, C] 1 = B from rfl, show pieceAt [A, B, C] 2 = C from rfl, g0, g1, g2, hA, hB, hC]
    rfl
  · obtain ⟨hp, g0, g1, g2⟩ := fwd h
    unfold dv
    rw [hp, numR_ok g0, numR_ok g1, numR_ok g2]
    exact ⟨rfl, rfl, rfl⟩
theorem clock_iff {s A B : ByteArray} (hs : s.data.toList = A.data.toList ++ 58 :: B.data.toList) (hA : A.size = 2) (hB : B.size = 2) :
    (clockOk s = true ↔ (digitsR A).2 = true ∧ (digitsR B).2 = true) ∧ (clockOk s = true → dv s colon 0 = numR A ∧ dv s colon 1 = numR B) := by
  have fwd : clockOk s = true → pieces s colon = [A, B] ∧ (digitsR A).2 = true ∧ (digitsR B).2 = true := by
    intro h
    unfold clockOk fieldsB at h
    rw [Bool.and_eq_true, beq_iff_eq] at h
    obtain ⟨p0, p1, hp⟩ := list2 h.1
    have h2 := h.2
    have r : List.range [(2 : Int), 2].length = [0, 1] := rfl
    rw [r] at h2
    simp only [List.all_cons, List.all_nil, Bool.and_true, Bool.and_eq_true] at h2
    unfold goodP at h2
    rw [hp] at h2
    simp only [Bool.and_eq_true] at h2
    obtain ⟨⟨g0, z0⟩, g1, z1⟩ := h2
    have w0 : p0.size = 2 := by have := size_of_good z0; change (p0.size : Int) = 2 at this; omega
    have hj := join_splitL 58 _ s.data.toList (Nat.le_refl _)
    rw [← pieces_list s 58, show pieces s ⟨#[58]⟩ = [p0, p1] from hp, hs, List.map_cons, Lib.join_cons] at hj
    have e : p0.data.toList ++ 58 :: p1.data.toList = A.data.toList ++ 58 :: B.data.toList := by
      rw [← hj]
      simp [Lib.joinTail]
    obtain ⟨e0, e1⟩ := parts2 e (show p0.data.toList.length = A.data.toList.length from w0.trans hA.symm)
    obtain rfl := bytes_eq e0
    obtain rfl := bytes_eq e1
    exact ⟨hp, g0, g1⟩
  refine ⟨⟨fun h => (fwd h).2, fun ⟨g0, g1⟩ => ?_⟩, fun h => ?_⟩
  · have hp : pieces s colon = [A, B] := by
      refine pieces_of (c := 58) ?_
      rw [hs, splitL_app (no_sep g0 (by decide)), splitL_none (no_sep g1 (by decide))]
      rfl
    unfold clockOk fieldsB
    rw [hp]
    have r : List.range [(2 : Int), 2].length = [0, 1] := rfl
    rw [r]
    simp only [List.all_cons, List.all_nil, Bool.and_true]
    unfold goodP
    rw [show pieceAt [A, B] 0 = A from rfl, show pieceAt [A, B] 1 = B from rfl, g0, g1, hA, hB]
    rfl
  · obtain ⟨hp, g0, g1⟩ := fwd h
    unfold dv
    rw [hp, numR_ok g0, numR_ok g1]
    exact ⟨rfl, rfl⟩
/-- what was printed has its separators -/
theorem date_shape {s : ByteArray} (h : dateOk s = true) : s.size = 10 ∧ s.data.toList[4]? = some 45 ∧ s.data.toList[7]? = some 45 := by
  have e := date_read h 0 0 0
  rw [e]
  refine ⟨date_size _, ?_, ?_⟩ <;> rw [date_bytes] <;> rfl
theorem clock_shape {s : ByteArray} (h : clockOk s = true) : s.size = 5 ∧ s.data.toList[2]? = some 58 := by
  have e := clock_read h 0 0 0 0
  rw [e]
  refine ⟨clock_size _, ?_⟩
  rw [clock_bytes]
  rfl
theorem read_none {s t : ByteArray} {o : Int} (h : ¬ (dateOk s = true ∧ clockOk t = true)) : readR s t o = (0, 60) := by
  unfold readR
  rw [if_neg (fun hc => h ⟨hc.2.1, hc.2.2.1⟩)]
/-- the weekdays, tried one by one -/
theorem read_match {s t A B C D E : ByteArray} {o : Int} (hs : s.data.toList = A.data.toList ++ 45 :: (B.data.toList ++ 45 :: C.data.toList)) (hA : A.size = 4) (hB : B.size = 2) (hC : C.size = 2)
    (ht : t.data.toList = D.data.toList ++ 58 :: E.data.toList) (hD : D.size = 2) (hE : E.size = 2) :
    (∃ W : Nat, W < 7 ∧ (readR s t o).2 = 0 ∧ minuteR ⟨numR A, numR B, numR C, numR D, numR E, W⟩ o = readR s t o ∧ ∀ v : Nat, v < W → (minuteR ⟨numR A, numR B, numR C, numR D, numR E, v⟩ o).2 = 60) ∨
    (readR s t o = (0, 60) ∧ ∀ v : Nat, (minuteR ⟨numR A, numR B, numR C, numR D, numR E, v⟩ o).2 = 60) := by
  obtain ⟨i1, v1⟩ := date_iff hs hA hB hC
  obtain ⟨i2, v2⟩ := clock_iff ht hD hE
  obtain ⟨c, hc⟩ : ∃ c : Civ, c = ⟨numR A, numR B, numR C, numR D, numR E, 0⟩ := ⟨_, rfl⟩
  have hcw : ∀ v : Nat, (⟨numR A, numR B, numR C, numR D, numR E, v⟩ : Civ) = { c with w := (v : Int) } := fun v => by rw [hc]
  simp only [hcw]
  by_cases hq : offsetB o = true ∧ dateB c = true ∧ minuteB (locOf c - o) = true
  · left
    obtain ⟨q1, q2, q3⟩ := hq
    have hb := q2
    unfold dateB at hb
    rw [Bool.and_eq_true, decide_eq_true_eq, decide_eq_true_eq, hc] at hb
    dsimp only at hb
    obtain ⟨⟨m0, m1, k0, k1⟩, d0, d1, h0, h1, n0, n1⟩ := hb
    have g1 : dateOk s = true := i1.2 ⟨numR_nonneg (by unfold kOf at k0; omega), numR_nonneg (by omega), numR_nonneg (by omega)⟩
    have g2 : clockOk t = true := i2.2 ⟨numR_nonneg h0, numR_nonneg n0⟩
    have hrc : readC s t = c := by
      unfold readC
      rw [(v1 g1).1, (v1 g1).2.1, (v1 g1).2.2, (v2 g2).1, (v2 g2).2, hc]
    have ho := off_in q1
    have ha : atR c o = (locOf c - o, true) := by
      have hm : 0 ≤ locOf c - o ∧ locOf c - o ≤ 50000000 := by unfold minuteB at q3; simpa using q3
      unfold atR
      rw [if_pos q2, wrap_in (by omega), q3]
    have hr : readR s t o = (locOf c - o, 0) := by
      unfold readR
      rw [hrc, ha, if_pos ⟨q1, g1, g2, rfl⟩]
    have ms : ∀ v : Int, minuteR { c with w := v } o = if ((firstM (kOf c.y c.m).toNat + c.d + 11) % 7 == v) = true then (locOf c - o, 0) else (0, 60) := fun v => minute_some (c := { c with w := v }) q1 q2 q3
    refine ⟨((firstM (kOf c.y c.m).toNat + c.d + 11) % 7).toNat, by omega, by rw [hr], ?_, fun v hv => ?_⟩
    · rw [ms, if_pos (by rw [beq_iff_eq]; omega), hr]
    · rw [ms, if_neg (by rw [beq_iff_eq]; omega)]
  · right
    have mn : ∀ v : Int, minuteR { c with w := v } o = (0, 60) := fun v => minute_none (c := { c with w := v }) hq
    refine ⟨?_, fun v => by rw [mn]⟩
    unfold readR
    rw [if_neg]
    rintro ⟨q1, g1, g2, g3⟩
    have hrc : readC s t = c := by
      unfold readC
      rw [(v1 g1).1, (v1 g1).2.1, (v1 g1).2.2, (v2 g2).1, (v2 g2).2, hc]
    rw [hrc] at g3
    obtain ⟨a1, _, a3, a4⟩ := at_ok (off_in q1) g3
    exact hq ⟨q1, a1, by unfold minuteB; simp; omega⟩
theorem cut3 {s : ByteArray} (h : s.size = 10) (h4 : s.data.toList[4]? = some 45) (h7 : s.data.toList[7]? = some 45) :
    s.data.toList = (s.extract 0 4).data.toList ++ 45 :: ((s.extract 5 7).data.toList ++ 45 :: (s.extract 8 10).data.toList) ∧ (s.extract 0 4).size = 4 ∧ (s.extract 5 7).size = 2 ∧ (s.extract 8 10).size = 2 := by
  refine ⟨?_, by rw [ByteArray.size_extract]; omega, by rw [ByteArray.size_extract]; omega, by rw [ByteArray.size_extract]; omega⟩
  have hl : s.data.toList.length = 10 := h
  rw [Lib.extract_data, Lib.extract_data, Lib.extract_data]
  generalize s.data.toList = l at *
  match l, hl with
  | [a, b, c, d, e, f, g, i, j, k], _ =>
    simp at h4 h7
    subst h4 h7
    rfl
theorem cut2 {s : ByteArray} (h : s.size = 5) (h2 : s.data.toList[2]? = some 58) :
    s.data.toList = (s.extract 0 2).data.toList ++ 58 :: (s.extract 3 5).data.toList ∧ (s.extract 0 2).size = 2 ∧ (s.extract 3 5).size = 2 := by
  refine ⟨?_, by rw [ByteArray.size_extract]; omega, by rw [ByteArray.size_extract]; omega⟩
  have hl : s.data.toList.length = 5 := h
  rw [Lib.extract_data, Lib.extract_data]
  generalize s.data.toList = l at *
  match l, hl with
  | [a, b, c, d, e], _ =>
    simp at h2
    subst h2
    rfl
end Go.Proofs.YtdldokhiefeloaaDoor
