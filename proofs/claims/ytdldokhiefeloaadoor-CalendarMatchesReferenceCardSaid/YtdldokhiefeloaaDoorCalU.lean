/- fields: the numbers between separators, each written where its pointer points. -/
import Derived.Test.YtdldokhiefeloaaDoorCalR
import Derived.Test.YtdldokhiefeloaaDoorShelf
import Derived.Shelf.Strings.PiecesUse
import Derived.Lib.SplitLaws
namespace Go.Proofs.YtdldokhiefeloaaDoor
open Go.RowKit

def pieces (s sep : ByteArray) : List ByteArray := Lib.splitB sep 0 (Lib.countB s sep) s
theorem pieces_len (s sep : ByteArray) (h1 : 1 ≤ sep.size) : (pieces s sep).length = Lib.countB s sep + 1 := Lib.splitB_all sep h1 0 _ s rfl
theorem pieces_small (sep : ByteArray) : ∀ (k : Nat) (s : ByteArray) (p : ByteArray), p ∈ Lib.splitB sep 0 k s → p.size ≤ s.size
  | 0, s, p, h => by rw [Lib.splitB_zero, List.mem_singleton] at h; rw [h]; exact Nat.le_refl _
  | k + 1, s, p, h => by
    unfold Lib.splitB at h
    split at h
    · rw [List.mem_singleton] at h; rw [h]; exact Nat.le_refl _
    · rcases List.mem_cons.1 h with h | h
      · rw [h, ByteArray.size_extract]; omega
      · have := pieces_small sep k _ p h
        rw [ByteArray.size_extract] at this
        omega
def pieceAt (ps : List ByteArray) (j : Nat) : ByteArray := ps.getD j ByteArray.empty
def goodP (ps : List ByteArray) (zs : List Int) (j : Nat) : Bool := (digitsR (pieceAt ps j)).2 && !(((pieceAt ps j).size : Int) != zs.getD j 0)
def fieldsB (ps : List ByteArray) (zs : List Int) : Bool := (ps.length == zs.length) && (List.range zs.length).all (goodP ps zs)
def setK (V : List Value) (o : Nat) (ps : List ByteArray) : Nat → List Value
  | 0 => V
  | k + 1 => (setK V o ps k).set (o + k) (.int .i64 (digitsR (pieceAt ps k)).1)
theorem setK_len (V : List Value) (o : Nat) (ps : List ByteArray) (k : Nat) : (setK V o ps k).length = V.length := by
  induction k with
  | zero => rfl
  | succ k ih => simp [setK, ih]
theorem fields_no {ps : List ByteArray} {zs : List Int} {k : Nat} (hk : k < zs.length) (h : goodP ps zs k = false) : fieldsB ps zs = false := by
  unfold fieldsB
  rw [Bool.and_eq_false_iff]
  right
  rw [List.all_eq_false]
  exact ⟨k, List.mem_range.2 hk, by simp [h]⟩

set_option maxRecDepth 100000 in
set_option maxHeartbeats 4000000 in
theorem fields_any (s sep : ByteArray) (zs : List Int) (n bz bt bc o B : Nat) (tz tt tc : TypeId) (V : List Value) (w : World) (m : Int) (hm : w.cell? ⟨2, 0, none⟩ = some (.int .i64 m)) (hs : s.size < 4294967281) (h1 : 1 ≤ sep.size)
    (hz : zs.length = n) (hn : n ≤ 6) (Rz : Row w bz tz (zs.map (Value.int .i64))) (Rt : Row w bt tt ((List.range n).map fun k => .pointer (some ⟨bc, o + k, none⟩))) (Rc : Row w bc tc V) (hV : V.length = 6) (ho : o + n ≤ 6) (hB : B ≤ bc) (hzc : bz ≠ bc) (htc : bt ≠ bc) :
    Calls Tryd.prog 78 #[.string s, .string sep, .slice (some ⟨bz, 0, none⟩) n n, .slice (some ⟨bt, 0, none⟩) n n] w fun e w' =>
      e = .returned (.bool (fieldsB (pieces s sep) zs)) ∧ ∃ k, (fieldsB (pieces s sep) zs = true → k = n) ∧ Row w' bc tc (setK V o (pieces s sep) k) ∧ Below B w w' := by
  have SP := Tryd.strings_Split s sep m w hs hm h1
  have hN := pieces_len s sep h1
  have hsm : ∀ j, j < (pieces s sep).length → (pieceAt (pieces s sep) j).size ≤ 9223372036854775807 := fun j hj => by
    have := pieces_small sep (Lib.countB s sep) s (pieceAt (pieces s sep) j) (by unfold pieceAt; rw [List.getD_eq_getElem?_getD, List.getElem?_eq_getElem hj]; exact List.getElem_mem hj)
    omega
  change Calls Tryd.prog _ _ _ fun e w' => e = .returned (.slice (some ⟨w.heap.size, 0, none⟩) (Lib.countB s sep + 1) (Lib.countB s sep + 1)) ∧ w' = w.alloc (.cells ((pieces s sep).map Value.string).toArray 9) at SP
  have hcb := Lib.countB_le sep h1 s.size s (Nat.le_refl _)
  obtain ⟨N, hN2⟩ : ∃ N, Lib.countB s sep + 1 = N := ⟨_, rfl⟩
  have hN3 : N ≤ 4294967281 := by omega
  rw [hN2] at hN SP
  have SP' := Lib.hid SP
  have HSM := Lib.hid hsm
  clear SP hN2 hsm hcb
  generalize pieces s sep = ps at *
  have Rp : Row (w.alloc (.cells (ps.map Value.string).toArray 9)) w.heap.size 9 (ps.map Value.string) := Row.new _ _ _
  have Rz' := Rz.alloc (.cells (ps.map Value.string).toArray 9)
  have Rt' := Rt.alloc (.cells (ps.map Value.string).toArray 9)
  have Rc' := Rc.alloc (.cells (ps.map Value.string).toArray 9)
  have lz := Rz.lt
  have lt := Rt.lt
  have lc := Rc.lt
  have BW : Below B w (w.alloc (.cells (ps.map Value.string).toArray 9)) := (Below.refl _ _).alloc (by omega) _
  by_cases hne : N = n
  · subst hne
    have HH := Lib.hid (And.intro Rp (And.intro Rz' (And.intro Rt' (And.intro Rc' BW))))
    clear Rp Rz' Rt' Rc' BW Rz Rt Rc hm
    obtain ⟨F, hF⟩ : ∃ F, F = fieldsB ps zs := ⟨_, rfl⟩
    rw [← hF]
    have HF := Lib.hid hF
    clear hF
    go_enter Tryd.func78, Tryd.ntmps78
    go_wp2_with fail
    refine SP'.out.mono ?_
    rintro e w2 ⟨rfl, hw⟩
    rw [← hw] at HH
    have HW := Lib.hid hw
    clear hw SP'
    go_wp2_with fail
    go_loopw [24] (fun i wr => ∃ k : Nat, k ≤ N ∧ i = .int .i64 k ∧ (∀ j, j < k → goodP ps zs j = true) ∧ Row wr w.heap.size 9 (ps.map Value.string) ∧ Row wr bz tz (zs.map (Value.int .i64)) ∧ Row wr bt tt ((List.range N).map fun k => .pointer (some ⟨bc, o + k, none⟩)) ∧ Row wr bc tc (setK V o ps k) ∧ Below B w wr) (fun i _ => N - (intOf i).toNat)
    case atStart =>
      obtain ⟨a, b, c, d, e⟩ := HH.out
      exact ⟨0, Nat.zero_le _, rfl, fun j hj => absurd hj (Nat.not_lt_zero _), a, b, c, d, e⟩
    case round =>
      obtain ⟨k, hk, rfl, hg, Rp, Rz, Rt, Rc, BW⟩ := hrel
      clear HH
      by_cases hlt : k < N
      · have cp : wr.cell? ⟨w.heap.size, k, none⟩ = some (.string (pieceAt ps k)) := by
          rw [Rp.cell, List.getElem?_map, List.getElem?_eq_getElem (by omega)]
          unfold pieceAt
          rw [List.getD_eq_getElem?_getD, List.getElem?_eq_getElem (by omega)]
          rfl
        have cz : wr.cell? ⟨bz, k, none⟩ = some (.int .i64 (zs.getD k 0)) := by
          rw [Rz.cell, List.getElem?_map, List.getElem?_eq_getElem (by omega), List.getD_eq_getElem?_getD, List.getElem?_eq_getElem (by omega)]
          rfl
        have ct : wr.cell? ⟨bt, k, none⟩ = some (.pointer (some ⟨bc, o + k, none⟩)) := by
          rw [Rt.cell, List.getElem?_map, List.getElem?_range (by omega)]
          rfl
        obtain ⟨v, cc⟩ : ∃ v, wr.cell? ⟨bc, o + k, none⟩ = some v := by
          rw [Rc.cell, List.getElem?_eq_getElem (by rw [setK_len]; omega)]
          exact ⟨_, rfl⟩
        have fc := Rc.frozen (o + k)
        have HRR := Lib.hid (And.intro hg (And.intro Rp (And.intro Rz (And.intro Rt (And.intro Rc BW)))))
        have np : w.heap.size ≠ bc := by omega
        clear hg Rp Rz Rt Rc BW
        have hsz := HSM.out k (by omega)
        have GP := Lib.hid (show goodP ps zs k = ((digitsR (pieceAt ps k)).2 && !(((pieceAt ps k).size : Int) != zs.getD k 0)) from rfl)
        have NO := Lib.hid (fun h => HF.out.trans (fields_no (ps := ps) (zs := zs) (k := k) (by omega) h))
        have SK := Lib.hid (show setK V o ps (k + 1) = (setK V o ps k).set (o + k) (.int .i64 (digitsR (pieceAt ps k)).1) from rfl)
        generalize pieceAt ps k = p at *
        generalize zs.getD k 0 = z at *
        have HD := Lib.hid (fun w => digits_any p w (by unfold maxLen; exact hsz))
        generalize digitsR p = D at *
        obtain ⟨x, ok⟩ := D
        cases ok
        · have E := Lib.hid (NO.out (by rw [GP.out]; rfl))
          obtain rfl := E.out
          go_wp2_with (refine Calls.mono (HD.out _) ?_; rintro e w' ⟨rfl, rfl⟩)
          go_ret
          obtain ⟨hg, Rp, Rz, Rt, Rc, BW⟩ := HRR.out
          exact ⟨rfl, k, fun h => (by cases h), Rc, BW⟩
        · cases hc : ((p.size : Int) != z)
          · have G1 := Lib.hid (show goodP ps zs k = true by rw [GP.out, hc]; rfl)
            clear NO GP
            go_wp2_with (refine Calls.mono (HD.out _) ?_; rintro e w' ⟨rfl, rfl⟩)
            go_roundw
            case rel =>
              obtain ⟨hg, Rp, Rz, Rt, Rc, BW⟩ := HRR.out
              refine ⟨k + 1, by omega, by go_num, fun j hj => ?_, Rp.other np _ _, Rz.other hzc _ _, Rt.other htc _ _, ?_, BW.setCell hB _⟩
              · by_cases hjk : j < k
                · exact hg j hjk
                · obtain rfl : j = k := by omega
                  exact G1.out
              · rw [SK.out]
                exact Rc.set _ _
            case measure => simp [intOf]; omega
          · have E := Lib.hid (NO.out (by rw [GP.out, hc]; rfl))
            obtain rfl := E.out
            go_wp2_with (refine Calls.mono (HD.out _) ?_; rintro e w' ⟨rfl, rfl⟩)
            go_ret
            obtain ⟨hg, Rp, Rz, Rt, Rc, BW⟩ := HRR.out
            exact ⟨rfl, k, fun h => (by cases h), Rc, BW⟩
      · obtain rfl : k = N := by omega
        have E := Lib.hid (show F = true by
          rw [HF.out]
          unfold fieldsB
          rw [Bool.and_eq_true, beq_iff_eq, List.all_eq_true]
          exact ⟨by omega, fun j hj => hg j (by have := List.mem_range.1 hj; omega)⟩)
        obtain rfl := E.out
        go_wp2_with fail
        go_ret
        first | exact ⟨rfl, Rc, BW⟩ | exact ⟨rfl, k, fun _ => rfl, Rc, BW⟩
  · have E := Lib.hid (show fieldsB ps zs = false by
      unfold fieldsB
      rw [show (ps.length == zs.length) = false by rw [beq_eq_false_iff_ne]; omega]
      rfl)
    rw [E.out]
    have hNn : ((N : Int) != (n : Int)) = true := by rw [bne_iff_ne]; omega
    have HH := Lib.hid (And.intro Rp (And.intro Rz' (And.intro Rt' (And.intro Rc' BW))))
    clear Rp Rz' Rt' Rc' BW Rz Rt Rc hm
    go_enter Tryd.func78, Tryd.ntmps78
    go_wp2_with fail
    refine SP'.out.mono ?_
    rintro e w2 ⟨rfl, hw⟩
    rw [← hw] at HH
    have HW := Lib.hid hw
    clear hw SP'
    go_wp2_with fail
    go_ret
    obtain ⟨a, b, c, d, e⟩ := HH.out
    exact ⟨rfl, 0, fun h => (by cases h), d, e⟩
end Go.Proofs.YtdldokhiefeloaaDoor
