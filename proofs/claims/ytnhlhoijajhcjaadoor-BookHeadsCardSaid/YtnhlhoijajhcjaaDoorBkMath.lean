/- Books as mathematics: postings, what is formed and valid, what postings do to balances, posts, disputes, closed months. -/
import Derived.Test.YtnhlhoijajhcjaaDoorSq
set_option linter.unusedVariables false
set_option linter.unusedSimpArgs false
set_option linter.unnecessarySimpa false
namespace Go.Proofs.YtnhlhoijajhcjaaDoor
open Go.RowKit
namespace Bk
structure Po where
  kind : Int
  day : Int
  deb : Int
  cre : Int
  amt : Int
  sub : Int
  of : Int
instance : DecidableEq Po := fun a b => decidable_of_iff (a.kind = b.kind ∧ a.day = b.day ∧ a.deb = b.deb ∧ a.cre = b.cre ∧ a.amt = b.amt ∧ a.sub = b.sub ∧ a.of = b.of)
  ⟨fun h => by obtain ⟨h1, h2, h3, h4, h5, h6, h7⟩ := h; cases a; cases b; simp_all, fun h => by subst h; simp⟩
def inI (n : Int) : Prop := -9223372036854775808 ≤ n ∧ n ≤ 9223372036854775807
def Po.fit (p : Po) : Prop := inI p.kind ∧ inI p.day ∧ inI p.deb ∧ inI p.cre ∧ inI p.amt ∧ inI p.sub ∧ inI p.of
def Po.cells (p : Po) : List Value := [.int .i64 p.kind, .int .i64 p.day, .int .i64 p.deb, .int .i64 p.cre, .int .i64 p.amt, .int .i64 p.sub, .int .i64 p.of]
def Po.v (p : Po) : Value := .agg #[.int .i64 p.kind, .int .i64 p.day, .int .i64 p.deb, .int .i64 p.cre, .int .i64 p.amt, .int .i64 p.sub, .int .i64 p.of]
def poE : Sq.El Po := ⟨7, Po.cells, by decide, fun _ => rfl, fun x u hu => by simp [Po.cells] at hu; rcases hu with rfl | rfl | rfl | rfl | rfl | rfl | rfl <;> rfl⟩
def p0 : Po := ⟨0, 0, 0, 0, 0, 0, 0⟩
theorem p0_fit : p0.fit := by unfold Po.fit inI p0; decide
def at' (l : List Po) (i : Nat) : Po := l.getD i p0
theorem at_get {l : List Po} {i : Nat} (h : i < l.length) : l[i]? = some (at' l i) := by
  unfold at'
  rw [List.getD_eq_getElem?_getD, List.getElem?_eq_getElem h]
  rfl
theorem at_of {l : List Po} {i : Nat} {p : Po} (h : l[i]? = some p) : at' l i = p := by
  unfold at'
  rw [List.getD_eq_getElem?_getD, h]
  rfl
theorem at_mem {l : List Po} {i : Nat} (h : i < l.length) : at' l i ∈ l := List.mem_of_getElem? (at_get h)
theorem at_left {l m : List Po} {i : Nat} (h : i < l.length) : at' (l ++ m) i = at' l i := at_of (by rw [List.getElem?_append_left h]; exact at_get h)
theorem at_last (l : List Po) (p : Po) : at' (l ++ [p]) l.length = p := at_of (by rw [List.getElem?_append_right (Nat.le_refl _), Nat.sub_self]; rfl)
/-- formed -/
def FmP (acc : Int) (p : Po) : Prop := ((p.kind = 1 ∧ p.of = -1) ∨ (p.kind = 2 ∧ 0 ≤ p.of ∧ p.of < 200)) ∧ (0 ≤ p.day ∧ p.day < 360) ∧ (0 ≤ p.deb ∧ p.deb < acc) ∧ (0 ≤ p.cre ∧ p.cre < acc) ∧ p.deb ≠ p.cre ∧ (1 ≤ p.amt ∧ p.amt ≤ 1000000000) ∧ (0 ≤ p.sub ∧ p.sub ≤ 999)
instance (acc : Int) (p : Po) : Decidable (FmP acc p) := by unfold FmP; infer_instance
def fm (acc : Int) (p : Po) : Bool := decide (FmP acc p)
theorem fm_iff {acc : Int} {p : Po} : fm acc p = true ↔ FmP acc p := decide_eq_true_iff
theorem fm_no {acc : Int} {p : Po} (h : ¬ FmP acc p) : fm acc p = false := decide_eq_false h
/-- is the posting i taken back by one of these? -/
def rev (l : List Po) (i : Int) : Bool := l.any fun p => decide (p.kind = 2 ∧ p.of = i)
theorem rev_append (l m : List Po) (i : Int) : rev (l ++ m) i = (rev l i || rev m i) := List.any_append
theorem rev_iff {l : List Po} {i : Int} : rev l i = true ↔ ∃ k, k < l.length ∧ (at' l k).kind = 2 ∧ (at' l k).of = i := by
  unfold rev
  rw [List.any_eq_true]
  constructor
  · rintro ⟨p, hp, h⟩
    obtain ⟨k, hk, rfl⟩ := List.getElem_of_mem hp
    refine ⟨k, hk, ?_⟩
    rw [at_of (List.getElem?_eq_getElem hk)]
    exact of_decide_eq_true h
  · rintro ⟨k, hk, h⟩
    exact ⟨_, at_mem hk, decide_eq_true h⟩
/-- does p, with the index i, take back an earlier fee? -/
def TbP (l : List Po) (i : Nat) : Prop := (at' l i).of < i ∧ (at' l (at' l i).of.toNat).kind = 1 ∧ rev (l.take i) (at' l i).of = false ∧ (at' l (at' l i).of.toNat).sub = (at' l i).sub ∧
  ((at' l i).deb = (at' l (at' l i).of.toNat).cre ∧ (at' l i).cre = (at' l (at' l i).of.toNat).deb ∧ (at' l i).amt = (at' l (at' l i).of.toNat).amt)
instance (l : List Po) (i : Nat) : Decidable (TbP l i) := by unfold TbP; infer_instance
/-- what the book's entry with the index i must be -/
def OkP (acc : Int) (l : List Po) (i : Nat) : Prop := FmP acc (at' l i) ∧ (0 < i → (at' l (i - 1)).day ≤ (at' l i).day) ∧ ((at' l i).kind = 2 → TbP l i)
instance (acc : Int) (l : List Po) (i : Nat) : Decidable (OkP acc l i) := by unfold OkP; infer_instance
def BaseP (acc : Int) (n : Nat) (cl : Int) : Prop := 2 ≤ acc ∧ acc ≤ 12 ∧ 0 ≤ cl ∧ cl ≤ 12 ∧ n ≤ 200
instance (acc : Int) (n : Nat) (cl : Int) : Decidable (BaseP acc n cl) := by unfold BaseP; infer_instance
def Vd (acc : Int) (l : List Po) (cl : Int) : Prop := BaseP acc l.length cl ∧ ∀ i, i < l.length → OkP acc l i
instance (acc : Int) (l : List Po) (cl : Int) : Decidable (Vd acc l cl) := by unfold Vd; infer_instance
def vd (acc : Int) (l : List Po) (cl : Int) : Bool := decide (Vd acc l cl)
theorem vd_iff {acc : Int} {l : List Po} {cl : Int} : vd acc l cl = true ↔ Vd acc l cl := decide_eq_true_iff
theorem vd_no {acc : Int} {l : List Po} {cl : Int} (h : ¬ Vd acc l cl) : vd acc l cl = false := decide_eq_false h
/-- what a posting does to the balance of an account -/
def eff (p : Po) (t : Nat) : Int := (if (t : Int) = p.cre then p.amt else 0) - (if (t : Int) = p.deb then p.amt else 0)
theorem eff_bd {acc : Int} {p : Po} (h : FmP acc p) (t : Nat) : -1000000000 ≤ eff p t ∧ eff p t ≤ 1000000000 := by
  obtain ⟨_, _, _, _, _, ⟨h1, h2⟩, _⟩ := h
  unfold eff
  split <;> split <;> omega
theorem eff_pair {acc : Int} (ha : acc ≤ 12) {p q : Po} (hp : FmP acc p) (hq : FmP acc q) : (∀ t, t < 12 → eff p t + eff q t = 0) ↔ (p.deb = q.cre ∧ p.cre = q.deb ∧ p.amt = q.amt) := by
  obtain ⟨_, _, ⟨p1, p2⟩, ⟨p3, p4⟩, p5, ⟨p6, p7⟩, _⟩ := hp
  obtain ⟨_, _, ⟨q1, q2⟩, ⟨q3, q4⟩, q5, ⟨q6, q7⟩, _⟩ := hq
  constructor
  · intro h
    have h1 := h p.cre.toNat (by omega)
    have h2 := h p.deb.toNat (by omega)
    unfold eff at h1 h2
    rw [Int.toNat_of_nonneg (by omega)] at h1 h2
    rw [if_pos rfl, if_neg (fun e => p5 e.symm)] at h1
    rw [if_neg p5, if_pos rfl] at h2
    split at h1 <;> split at h1 <;> split at h2 <;> split at h2 <;> omega
  · rintro ⟨h1, h2, h3⟩ t _
    unfold eff
    rw [h1, h2, h3]
    omega
/-- the postings with their indices -/
def idx (l : List Po) : Nat → List (Nat × Po)
  | 0 => []
  | k + 1 => idx l k ++ [(k, at' l k)]
def flt (q : Po → Bool) (l : List Po) (k : Nat) : List (Nat × Po) := (idx l k).filter fun x => q x.2
theorem flt_yes {q : Po → Bool} {l : List Po} {k : Nat} (h : q (at' l k) = true) : flt q l (k + 1) = flt q l k ++ [(k, at' l k)] := by
  unfold flt
  rw [show idx l (k + 1) = idx l k ++ [(k, at' l k)] from rfl, List.filter_append]
  simp [h]
theorem flt_no {q : Po → Bool} {l : List Po} {k : Nat} (h : q (at' l k) = false) : flt q l (k + 1) = flt q l k := by
  unfold flt
  rw [show idx l (k + 1) = idx l k ++ [(k, at' l k)] from rfl, List.filter_append]
  simp [h]
theorem flt_more {q : Po → Bool} {l : List Po} {k n : Nat} (h : k ≤ n) : flt q l k <+: flt q l n := by
  induction n with
  | zero =>
    obtain rfl : k = 0 := by omega
    exact List.prefix_rfl
  | succ n ih =>
    by_cases e : k = n + 1
    · subst e; exact List.prefix_rfl
    · refine (ih (by omega)).trans ?_
      cases hq : q (at' l n) with
      | true => rw [flt_yes hq]; exact List.prefix_append _ _
      | false => rw [flt_no hq]; exact List.prefix_rfl
theorem flt_mem {q : Po → Bool} {l : List Po} {k : Nat} {x : Nat × Po} : x ∈ flt q l k ↔ x.1 < k ∧ x.2 = at' l x.1 ∧ q x.2 = true := by
  induction k with
  | zero => simp [flt, idx]
  | succ k ih =>
    cases hq : q (at' l k) with
    | true =>
      rw [flt_yes hq, List.mem_append, ih, List.mem_singleton]
      constructor
      · rintro (⟨h1, h2⟩ | rfl)
        · exact ⟨by omega, h2⟩
        · exact ⟨Nat.lt_succ_self _, rfl, hq⟩
      · rintro ⟨h1, h2, h3⟩
        rcases Nat.lt_succ_iff_lt_or_eq.1 h1 with h | h
        · exact .inl ⟨h, h2, h3⟩
        · refine .inr ?_
          rw [h] at h2
          exact Prod.ext h h2
    | false =>
      rw [flt_no hq, ih]
      constructor
      · rintro ⟨h1, h2⟩
        exact ⟨by omega, h2⟩
      · rintro ⟨h1, h2, h3⟩
        rcases Nat.lt_succ_iff_lt_or_eq.1 h1 with h | h
        · exact ⟨h, h2, h3⟩
        · rw [h2, h, hq] at h3
          cases h3
theorem flt_len (q : Po → Bool) (l : List Po) (k : Nat) : (flt q l k).length ≤ k := by
  induction k with
  | zero => simp [flt, idx]
  | succ k ih =>
    cases hq : q (at' l k) with
    | true => rw [flt_yes hq, List.length_append]; simp; omega
    | false => rw [flt_no hq]; omega
/-- what some postings do -/
def sumP (l : List (Nat × Po)) (t : Nat) : Int := (l.map fun x => eff x.2 t).sum
theorem sumP_nil (t : Nat) : sumP [] t = 0 := rfl
theorem sumP_snoc (l : List (Nat × Po)) (x : Nat × Po) (t : Nat) : sumP (l ++ [x]) t = sumP l t + eff x.2 t := by
  unfold sumP
  rw [List.map_append, List.sum_append]
  simp
theorem sumP_bd {acc : Int} (l : List (Nat × Po)) (h : ∀ x ∈ l, FmP acc x.2) (t : Nat) : -(1000000000 * (l.length : Int)) ≤ sumP l t ∧ sumP l t ≤ 1000000000 * (l.length : Int) := by
  induction l with
  | nil => simp [sumP]
  | cons x l ih =>
    have h1 := ih (fun y hy => h y (List.mem_cons_of_mem _ hy))
    have h2 := eff_bd (h x List.mem_cons_self) t
    have e : sumP (x :: l) t = eff x.2 t + sumP l t := by simp [sumP]
    rw [e, List.length_cons]
    omega
/-- month m's -/
def inM (m : Int) (p : Po) : Bool := decide (p.day / 30 = m)
def feeOf (s : Int) (p : Po) : Bool := decide (p.kind = 1 ∧ p.sub = s)
def stmt (l : List Po) (m : Int) (t : Nat) : Int := sumP (flt (inM m) l l.length) t
def owed (l : List Po) (s : Int) (t : Nat) : Int := sumP ((flt (feeOf s) l l.length).filter fun x => !rev l x.1) t
/-- posts, disputes, closed months -/
def PostP (acc : Int) (l : List Po) (cl : Int) (p : Po) : Prop := Vd acc l cl ∧ Vd acc (l ++ [p]) cl ∧ 30 * cl ≤ p.day
instance (acc : Int) (l : List Po) (cl : Int) (p : Po) : Decidable (PostP acc l cl p) := by unfold PostP; infer_instance
def post (acc : Int) (l : List Po) (cl : Int) (p : Po) : Option (List Po) := if PostP acc l cl p then some (l ++ [p]) else none
def back (q : Po) (i day : Int) : Po := ⟨2, day, q.cre, q.deb, q.amt, q.sub, i⟩
def again (q : Po) (day amt : Int) : Po := { q with day := day, amt := amt }
def disp (acc : Int) (l : List Po) (cl i day amt : Int) : Option (List Po) :=
  if 0 ≤ i ∧ i < l.length ∧ 0 ≤ amt ∧ amt ≤ 1000000000 then
    match post acc l cl (back (at' l i.toNat) i day) with
    | none => none
    | some l1 => if amt = 0 then some l1 else post acc l1 cl (again (at' l i.toNat) day amt)
  else none
def CloseP (acc : Int) (l : List Po) (cl m : Int) : Prop := Vd acc l cl ∧ m = cl ∧ 0 ≤ m ∧ m < 12
instance (acc : Int) (l : List Po) (cl m : Int) : Decidable (CloseP acc l cl m) := by unfold CloseP; infer_instance
/-- arrays of twelve -/
def balC (g : Nat → Int) : List Value := (List.range 12).map fun i => .int .i64 (g i)
theorem balC_len (g : Nat → Int) : (balC g).length = 12 := by simp [balC]
theorem balC_at (g : Nat → Int) {i : Nat} (h : i < 12) : (balC g)[i]? = some (.int .i64 (g i)) := by
  unfold balC
  rw [List.getElem?_map, List.getElem?_range h]
  rfl
theorem balC_set (g : Nat → Int) (i : Nat) (v : Int) : (balC g).set i (.int .i64 v) = balC fun j => if j = i then v else g j := by
  apply List.ext_getElem?
  intro j
  rw [List.getElem?_set, balC_len]
  by_cases hj : j < 12
  · rw [balC_at (fun j => if j = i then v else g j) hj]
    by_cases e : i = j
    · subst e
      rw [if_pos rfl, if_pos hj, if_pos rfl]
    · rw [if_neg e, if_neg (fun h : j = i => e h.symm), balC_at _ hj]
  · rw [List.getElem?_eq_none (by rw [balC_len]; omega : (balC fun j => if j = i then v else g j).length ≤ j)]
    split
    · rename_i e
      rw [if_neg (by omega)]
    · exact List.getElem?_eq_none (by rw [balC_len]; omega)
theorem balC_ext {g h : Nat → Int} (e : ∀ t, t < 12 → g t = h t) : balC g = balC h := by
  unfold balC
  exact List.map_congr_left fun t ht => by rw [e t (List.mem_range.1 ht)]
theorem balC_one (g : Nat → Int) : (balC g).toArray.all (·.oneCell') = true := by
  rw [List.all_toArray, List.all_eq_true]
  intro x hx
  obtain ⟨i, _, rfl⟩ := List.mem_map.1 hx
  rfl
theorem balC_zero : (List.replicate 12 (Value.int .i64 0)) = balC fun _ => 0 := rfl
end Bk
end Go.Proofs.YtnhlhoijajhcjaaDoor
