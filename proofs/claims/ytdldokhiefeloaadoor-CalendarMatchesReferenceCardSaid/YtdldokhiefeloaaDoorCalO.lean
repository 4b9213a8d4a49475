/- Later minutes have later dates and times: plain mathematics. -/
import Derived.Test.YtdldokhiefeloaaDoorCalP
namespace Go.Proofs.YtdldokhiefeloaaDoor
open Go.RowKit

/-- the order of lists -/
def lexL : List Int → List Int → Bool
  | x :: xs, y :: ys => if x = y then lexL xs ys else decide (x < y)
  | _, _ => false
theorem lexL_at : ∀ (k : Nat) (xs ys : List Int) (x y : Int), xs[k]? = some x → ys[k]? = some y → (∀ j, j < k → xs[j]? = ys[j]?) → x ≠ y → lexL xs ys = decide (x < y)
  | 0, a :: xs, b :: ys, x, y, h1, h2, _, hne => by
    simp only [List.getElem?_cons_zero, Option.some.injEq] at h1 h2
    subst h1 h2
    unfold lexL
    rw [if_neg hne]
  | k + 1, a :: xs, b :: ys, x, y, h1, h2, h, hne => by
    have h0 := h 0 (by omega)
    simp only [List.getElem?_cons_zero, Option.some.injEq] at h0
    unfold lexL
    rw [if_pos h0]
    exact lexL_at k xs ys x y (by simpa using h1) (by simpa using h2) (fun j hj => by simpa using h (j + 1) (by omega)) hne
  | 0, [], _, _, _, h1, _, _, _ => by simp at h1
  | _ + 1, [], _, _, _, h1, _, _, _ => by simp at h1
  | 0, _ :: _, [], _, _, _, h2, _, _ => by simp at h2
  | _ + 1, _ :: _, [], _, _, _, h2, _, _ => by simp at h2
theorem lexL_self (xs : List Int) : lexL xs xs = false := by
  induction xs with
  | nil => rfl
  | cons x xs ih => unfold lexL; rw [if_pos rfl]; exact ih
def civI (c : Civ) : List Int := [c.y, c.m, c.d, c.h, c.n]
def beforeB (a b : Civ) : Bool := lexL (civI a) (civI b)
/-- What comes first on a date and time: where two of them part, and how. -/
def Parts5 (a b : Civ) : Prop := a.y < b.y ∨ (a.y = b.y ∧ (a.m < b.m ∨ (a.m = b.m ∧ (a.d < b.d ∨ (a.d = b.d ∧ (a.h < b.h ∨ (a.h = b.h ∧ a.n < b.n)))))))
theorem before_of {a b : Civ} (h : Parts5 a b) : beforeB a b = true ∧ beforeB b a = false := by
  obtain ⟨a1, a2, a3, a4, a5, a6⟩ := a
  obtain ⟨b1, b2, b3, b4, b5, b6⟩ := b
  unfold Parts5 at h
  dsimp only at h
  unfold beforeB civI
  simp only [lexL]
  rcases h with h | ⟨rfl, h | ⟨rfl, h | ⟨rfl, h | ⟨rfl, h⟩⟩⟩⟩
  all_goals
    try simp only [if_true]
    rw [if_neg (by omega), if_neg (by omega)]
    exact ⟨decide_eq_true (by omega), decide_eq_false (by omega)⟩
theorem civ_order {L M : Int} (h : -1440 ≤ L) (h2 : M ≤ 50001440) (hlt : L < M) : Parts5 (civOf L) (civOf M) := by
  obtain ⟨k, hk, a, b, e⟩ := civ_spec h (by omega)
  obtain ⟨j, hj, a', b', e'⟩ := civ_spec (L := M) (by omega) h2
  obtain ⟨d0, d1, t0, t1, el⟩ := day_bd h (by omega)
  obtain ⟨d0', d1', t0', t1', el'⟩ := day_bd (L := M) (by omega) h2
  obtain ⟨m1, m2⟩ := stM_ym k
  obtain ⟨n1, n2⟩ := stM_ym j
  have hkj : k ≤ j := by
    apply Nat.le_of_not_lt
    intro hc
    have := firstM_mono (i := j + 1) (n := k) (by omega) (by omega)
    omega
  rw [e, e']
  unfold Parts5
  dsimp only
  by_cases hk2 : k = j
  · subst hk2
    right
    refine ⟨rfl, ?_⟩
    right
    refine ⟨rfl, ?_⟩
    omega
  · rw [m1, m2, n1, n2]
    omega
/-- one byte -/
theorem digit_nat (x : Int) (h : 0 ≤ x ∧ x ≤ 9) : (UInt8.ofNat (48 + x).toNat).toNat = 48 + x.toNat := by
  rw [UInt8.toNat_ofNat']
  omega
def bytesLessT : List UInt8 → List UInt8 → Bool
  | _, [] => false
  | [], _ :: _ => true
  | a :: x, b :: y => a < b || (a == b && bytesLessT x y)
def padL (n : Int) : List UInt8 := [UInt8.ofNat (48 + n / 10).toNat, UInt8.ofNat (48 + n % 10).toNat]
theorem pad_less {a b : Int} (ha : 0 ≤ a ∧ a ≤ 99) (hb : 0 ≤ b ∧ b ≤ 99) (h : a < b) (x y : List UInt8) : bytesLessT (padL a ++ x) (padL b ++ y) = true := by
  have a1 := digit_nat (a / 10) (by omega)
  have a2 := digit_nat (a % 10) (by omega)
  have b1 := digit_nat (b / 10) (by omega)
  have b2 := digit_nat (b % 10) (by omega)
  simp only [padL, List.cons_append, List.nil_append, bytesLessT]
  generalize UInt8.ofNat (48 + a / 10).toNat = p at *
  generalize UInt8.ofNat (48 + a % 10).toNat = q at *
  generalize UInt8.ofNat (48 + b / 10).toNat = r at *
  generalize UInt8.ofNat (48 + b % 10).toNat = s at *
  rw [Bool.or_eq_true, Bool.and_eq_true, Bool.or_eq_true, decide_eq_true_eq, decide_eq_true_eq, beq_iff_eq, UInt8.lt_iff_toNat_lt, UInt8.lt_iff_toNat_lt, ← UInt8.toNat_inj]
  omega
theorem less_same (x y : List UInt8) : ∀ l : List UInt8, bytesLessT (l ++ x) (l ++ y) = bytesLessT x y
  | [] => rfl
  | a :: l => by
    have := less_same x y l
    simp only [List.cons_append, bytesLessT, this]
    have h : decide (a < a) = false := by rw [decide_eq_false_iff_not, UInt8.lt_iff_toNat_lt]; omega
    rw [h]
    simp
end Go.Proofs.YtdldokhiefeloaaDoor
