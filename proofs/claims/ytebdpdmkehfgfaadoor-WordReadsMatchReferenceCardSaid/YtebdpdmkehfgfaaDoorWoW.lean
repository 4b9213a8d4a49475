/- Helpers of the laws: texts, few; words are short. -/
import Derived.Test.YtebdpdmkehfgfaaDoorWoV
set_option linter.unusedVariables false
set_option linter.unusedSimpArgs false
namespace Go.Proofs.YtebdpdmkehfgfaaDoor
open Go.RowKit
namespace Wo
set_option maxRecDepth 100000 in
theorem en_el {n : Nat} (h : n < 1000) : ∀ s ∈ enS n, s.length ≤ 100 := by
  have k := below (p := fun n => (enS n).all fun s => decide (s.length ≤ 100)) (N := 1000) (by decide +kernel) h
  exact fun s hs => of_decide_eq_true (List.all_eq_true.1 k s hs)
set_option maxRecDepth 100000 in
theorem es_el {n : Nat} (h : n < 1000) : ∀ s ∈ esS n ++ esLast (esS n), s.length ≤ 100 := by
  have k := below (p := fun n => (esS n ++ esLast (esS n)).all fun s => decide (s.length ≤ 100)) (N := 1000) (by decide +kernel) h
  exact fun s hs => of_decide_eq_true (List.all_eq_true.1 k s hs)
theorem de_el {n : Nat} (h : n < 1000) : (deW n).length ≤ 60 ∧ (deQ n).length ≤ 60 := by
  have k := deW_len h
  refine ⟨k, ?_⟩
  unfold deQ
  dsimp only
  split
  · exact Nat.le_trans (trim_len _ _) k
  · exact k
/-- words are short -/
theorem words_small (k : Nat) {n : Nat} (h : n < 1000000) : ∀ s ∈ words k n, s.length ≤ 100 := match k with
  | 0 => fun s hs => by
    have hs : s ∈ en n := hs
    unfold en at hs
    split at hs
    · rcases List.mem_append.1 hs with h1 | h1
      · exact en_el (by omega) s h1
      · rcases List.mem_cons.1 h1 with rfl | h2
        · decide
        · split at h2
          · cases h2
          · exact en_el (by omega) s h2
    · exact en_el (by omega) s hs
  | 1 => fun s hs => by
    have hs : s ∈ de n := hs
    unfold de at hs
    split at hs
    · rw [List.mem_singleton.1 hs]
      have := (de_el (n := n) (by omega)).1
      omega
    · rcases List.mem_cons.1 hs with rfl | h2
      · have := (de_el (n := n / 1000) (by omega)).2
        rw [List.length_append]
        have : tausend.length = 7 := rfl
        omega
      · split at h2
        · rw [List.mem_singleton.1 h2]
          have := (de_el (n := n % 1000) (by omega)).1
          omega
        · cases h2
  | _ + 2 => fun s hs => by
    have hs : s ∈ es n := hs
    unfold es at hs
    split at hs
    · rcases List.mem_append.1 hs with h1 | h1
      · split at h1
        · exact es_el (n := n / 1000) (by omega) s (List.mem_append_right _ h1)
        · cases h1
      · rcases List.mem_cons.1 h1 with rfl | h2
        · decide
        · split at h2
          · cases h2
          · exact es_el (n := n % 1000) (by omega) s (List.mem_append_left _ h2)
    · exact es_el (n := n) (by omega) s (List.mem_append_left _ hs)
theorem getD_small {l : List B} {z : Nat} (h : ∀ s ∈ l, s.length ≤ z) (i : Nat) : (l.getD i []).length ≤ z := by
  rw [List.getD_eq_getElem?_getD]
  cases e : l[i]? with
  | none => exact Nat.zero_le _
  | some x => exact h x (List.mem_of_getElem? e)
def tx (k n : Nat) : B := joinF (words k n) (words k n).length
theorem wO_ok (k : Nat) (L : Int) (hk : k < 3) (hL : L = k + 1) {n : Nat} (h : n < 1000000) : wO L n = (words k n, 0) := by
  unfold wO
  rw [if_pos ⟨⟨by omega, by omega⟩, by omega, by omega⟩, Int.toNat_natCast, show (L - 1).toNat = k by omega]
def txC (n i : Nat) : List Value := [if 0 < i then sV (tx 0 n) else sV [], if 1 < i then sV (tx 1 n) else sV [], if 2 < i then sV (tx 2 n) else sV []]
theorem txC_set (n i : Nat) (hi : i < 3) : (txC n i).set i (sV (tx i n)) = txC n (i + 1) := by
  rcases (show i = 0 ∨ i = 1 ∨ i = 2 by omega) with rfl | rfl | rfl <;> rfl
theorem txC_at (n i : Nat) (hi : i < 3) : (txC n i)[i]? = some (sV []) := by
  rcases (show i = 0 ∨ i = 1 ∨ i = 2 by omega) with rfl | rfl | rfl <;> rfl
set_option maxRecDepth 100000 in
set_option maxHeartbeats 1000000 in
theorem texts_any (n : Nat) (N : Int) (hN : N = n) (hn : n < 1000000) (w : World) (T : Tab w) : Calls Tryd.prog 31 #[.int .i64 N] w fun e w' => e = .returned (.agg #[sV (tx 0 n), sV (tx 1 n), sV (tx 2 n)]) ∧ Below w.heap.size w w' := by
  subst hN
  have HT0 := Lib.hid T
  have CW := Lib.hid (fun (i : Nat) (hi : i < 3) (L : Int) (hL : L = i + 1) W (T : Tab W) => (show Calls Tryd.prog 12 #[.int .i64 L, .int .i64 n] W fun e w' => ∃ v, e = .returned (.tuple #[v, .int .i64 0]) ∧ OwnS w' W.heap.size v (words i n) ∧ Below W.heap.size W w' from by
    have h := Words_any L n W T
    rw [wO_ok i L hi hL hn] at h
    exact h))
  have WL := Lib.hid (fun i => words_len i hn)
  have WS := Lib.hid (fun i => words_small i hn)
  have hCS := Lib.hid (txC_set n)
  have CZ := Lib.hid (txC_at n)
  have hC0 := Lib.hid (show txC n 0 = [sV [], sV [], sV []] from rfl)
  have hC3 := Lib.hid (show txC n 3 = [sV (tx 0 n), sV (tx 1 n), sV (tx 2 n)] from rfl)
  clear T
  go_enter Tryd.func31, Tryd.ntmps31
  go_upto_region 2 with (fail)
  refine wp_named fun v1 hq => ?_
  have hb : Below w.heap.size w v1 := by rw [hq]; exact ((Below.refl _ _).alloc (Nat.le_refl _) _).alloc (by simp) _
  have HR2 := Lib.hid (show Row v1 w.heap.size 49 [sV [], sV [], sV []] from by rw [hq]; exact (Row.new w 49 [sV [], sV [], sV []]).alloc _)
  have HR3 := Lib.hid (show Row v1 (w.heap.size + 1) 49 (txC n 0) from by rw [hq, hC0.out]; have := Row.new (w.alloc (.cells #[sV [], sV [], sV []] 49)) 49 [sV [], sV [], sV []]; rw [World.size_alloc] at this; exact this)
  have BB := Lib.hid hb
  clear hq hb
  go_wp2_with fail
  go_loopw [4] (fun Lv wr => ∃ i : Nat, Lv = .int .i64 (i + 1) ∧ i ≤ 3 ∧ Row wr w.heap.size 49 [sV [], sV [], sV []] ∧ Row wr (w.heap.size + 1) 49 (txC n i) ∧ Below w.heap.size w wr) (fun Lv _ => 4 - (intOf Lv).toNat)
  case atStart => exact ⟨0, rfl, by decide, HR2.out, HR3.out, BB.out⟩
  case round =>
    clear HR2 HR3 BB
    obtain ⟨i, rfl, hi, h2, h3, hB⟩ := hrel
    have R2 := Lib.hid h2
    have R3 := Lib.hid h3
    have BB := Lib.hid hB
    clear h2 h3 hB
    by_cases hlt : i < 3
    · have CWi := Lib.hid (fun W T => CW.out i hlt ((i : Int) + 1) rfl W T)
      have WLi := Lib.hid (WL.out i)
      have WSi := Lib.hid (WS.out i)
      have TXi := Lib.hid (show joinF (words i n) (words i n).length = tx i n from rfl)
      have CSi := Lib.hid (hCS.out i hlt)
      generalize words i n = ws at *
      generalize tx i n = t at *
      go_wp2_with fail
      with_reducible refine Calls.mono (CWi.out _ (HT0.out.next BB.out)) ?_
      rintro e w2 ⟨v, rfl, ho, hb⟩
      obtain ⟨o2, c2, rfl, -, -, -, hsl⟩ := ho.form
      have HX := Lib.hid hsl
      replace R2 := Lib.hid (R2.out.next hb)
      replace R3 := Lib.hid (R3.out.next hb)
      replace BB := Lib.hid (Below.andThen BB.out hb)
      clear ho hb hsl
      go_wp2_with fail
      with_reducible refine Calls.mono (joined_l o2 _ c2 ws w2 rfl (by have := WLi.out; omega) (getD_small (fun s hs => Nat.le_trans (WSi.out s hs) (by decide))) HX.out) ?_
      rintro e w' ⟨rfl, rfl⟩
      rw [TXi.out]
      have lr := R3.out.lt
      have fz := R3.out.frozen i
      have cz := (R3.out.cell i).trans (CZ.out i hlt)
      go_upto_region 4 with (fail)
      refine wp_named fun v3 hq => ?_
      replace R2 := Lib.hid (show Row v3 w.heap.size 49 [sV [], sV [], sV []] from by rw [hq]; exact R2.out.other (Nat.ne_of_lt (Nat.lt_succ_self _)) _ _)
      replace R3 := Lib.hid (show Row v3 (w.heap.size + 1) 49 (txC n (i + 1)) from by rw [hq, ← CSi.out]; exact R3.out.set i _)
      replace BB := Lib.hid (show Below w.heap.size w v3 from by rw [hq]; exact BB.out.setCell (p := ⟨w.heap.size + 1, i, none⟩) (Nat.le_succ _) _)
      clear hq lr fz cz
      go_wp2_with fail
      go_roundw
      case rel => exact ⟨i + 1, by go_num, by omega, R2.out, R3.out, BB.out⟩
      case measure => simp [intOf]; omega
    · obtain rfl : i = 3 := by omega
      have R4 := R3.out
      rw [hC3.out] at R4
      obtain ⟨c0, c1, c2⟩ := R4.three
      have l3 := R4.lt
      have l2 := R2.out.lt
      obtain ⟨d0, d1, d2⟩ := R2.out.three
      have f2 := R2.out.frozen
      clear R4
      go_wp2_with fail
      refine bodyPost_ret (v := (.agg #[sV (tx 0 n), sV (tx 1 n), sV (tx 2 n)])) (by first | (simp [results, Tryd.results31, go_sem]; done) | simp [results, Tryd.results31, go_sem, *]) rfl ⟨rfl, ((BB.out.setCell (p := ⟨w.heap.size, 0, none⟩) (Nat.le_refl _) _).setCell (p := ⟨w.heap.size, 1, none⟩) (Nat.le_refl _) _).setCell (p := ⟨w.heap.size, 2, none⟩) (Nat.le_refl _) _⟩
end Wo
end Go.Proofs.YtebdpdmkehfgfaaDoor
