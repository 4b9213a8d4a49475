/- Natural numbers in groups: what slices hold; trim, group, sign. -/
import Derived.Test.YtjhnfejlkljkjaaGreatDoorIntMathB
import Derived.Test.YtjhnfejlkljkjaaGreatDoorBytes
import Derived.Test.YtjhnfejlkljkjaaGreatDoorRegion
import Derived.LoopTactic
import Derived.OwnWalk
import Derived.Laws.AppendOwn
import Derived.Lib.MinMax
namespace Go.Proofs.YtjhnfejlkljkjaaGreatDoor
open Go.RowKit

theorem retv {v v' : Value} (h : v = v') : Ending.returned v = .returned v' := by rw [h]
theorem vint {k : IntKind} {a b : Int} (h : a = b) : Value.int k a = .int k b := by rw [h]
theorem vbool {a b : Bool} (h : a = b) : Value.bool a = .bool b := by rw [h]
abbrev natV (x : Nat) : Value := .int .i64 x
/-- a slice of numbers -/
def LSl (w : World) (o : Option Addr) (l : List Nat) : Prop := l = [] ∨ ∃ b off, o = some ⟨b, off, none⟩ ∧ b < w.heap.size ∧ ∀ (j : Nat) x, l[j]? = some x → w.cell? ⟨b, off + j, none⟩ = some (natV x)
theorem LSl.next {w w' : World} {o : Option Addr} {l : List Nat} (h : LSl w o l) (hb : Below w.heap.size w w') : LSl w' o l := by
  rcases h with h | ⟨b, off, rfl, hl, hc⟩
  · exact .inl h
  · exact .inr ⟨b, off, rfl, Nat.lt_of_lt_of_le hl hb.size, fun j x hx => (hb.cell (p := ⟨b, off + j, none⟩) hl).trans (hc j x hx)⟩
theorem LSl.take {w : World} {o : Option Addr} {l : List Nat} (k : Nat) (h : LSl w o l) : LSl w o (l.take k) := by
  rcases h with rfl | ⟨b, off, rfl, hl, hc⟩
  · exact .inl (by simp)
  · exact .inr ⟨b, off, rfl, hl, fun j x hx => hc j x (by rw [List.getElem?_take] at hx; split at hx <;> simp_all)⟩
/-- a slice holds the groups of a natural number -/
structure NSl (w : World) (v : Value) (n : Nat) : Prop where
  ex : ∃ o c, v = .slice o (In.gs n).length c ∧ (In.gs n).length ≤ c ∧ c ≤ 9223372036854775807 ∧ (o = none → c = 0) ∧ LSl w o (In.gs n)
theorem NSl.next {w w' : World} {v : Value} {n : Nat} (h : NSl w v n) (hb : Below w.heap.size w w') : NSl w' v n := by
  obtain ⟨o, c, rfl, h1, h2, h3, h4⟩ := h.ex
  exact ⟨o, c, rfl, h1, h2, h3, h4.next hb⟩
theorem NSl.mk' {w : World} {o : Option Addr} {c n L : Nat} (hL : (In.gs n).length = L) (h1 : L ≤ c) (h2 : c ≤ 9223372036854775807) (h3 : o = none → c = 0) (h4 : LSl w o (In.gs n)) : NSl w (.slice o L c) n := by
  subst hL
  exact ⟨o, c, rfl, h1, h2, h3, h4⟩
theorem nsl_zero (w : World) : NSl w (.slice none 0 0) 0 := ⟨none, 0, rfl, Nat.le_refl _, by decide, fun _ => rfl, .inl rfl⟩

set_option maxRecDepth 100000 in
set_option maxHeartbeats 1000000 in
theorem trim_any (o : Option Addr) (L c : Nat) (l : List Nat) (w : World) (hL : l.length = L) (hl : ∀ x ∈ l, x < 10000) (hc : L ≤ c) (hc2 : c ≤ 9223372036854775807) (ho : o = none → c = 0) (hS : LSl w o l) :
    Calls Tryz.prog 64 #[.slice o L c] w fun e w' => ∃ k, e = .returned (.slice o k c) ∧ NSl w' (.slice o k c) (In.nv 10000 l) ∧ Below w.heap.size w w' := by
  have HS := Lib.hid hS
  have HL := Lib.hid hL
  have HX := Lib.hid hl
  clear hS hL hl
  go_enter Tryz.func64, Tryz.ntmps64
  go_wp2
  go_loopw [0] (fun v wr => ∃ k, v = .slice o k c ∧ k ≤ L ∧ (∀ j x, k ≤ j → l[j]? = some x → x = 0) ∧ Below w.heap.size w wr) (fun v _ => match v with | .slice _ n _ => n | _ => 0)
  case atStart => exact ⟨L, rfl, Nat.le_refl _, fun j x hj hx => by
    have := (List.getElem?_eq_some_iff.1 hx).1
    rw [HL.out] at this
    omega, Below.refl _ _⟩
  case round =>
    obtain ⟨k, rfl, hk, hz, hB⟩ := hrel
    have HZ := Lib.hid hz
    have HB := Lib.hid hB
    clear hz hB
    by_cases h0 : k = 0
    · subst h0
      have HN := Lib.hid (show NSl wr (.slice o 0 c) (In.nv 10000 l) from by
        have e := In.trim_is HX.out (by omega) HZ.out (.inl rfl)
        rw [List.take_zero] at e
        exact NSl.mk' (by rw [e]; rfl) (by omega) hc2 ho (by rw [e]; exact .inl rfl))
      go_wp2
      go_ret
      exact ⟨_, rfl, HN.out, HB.out⟩
    · obtain ⟨m, rfl⟩ : ∃ m, k = m + 1 := ⟨k - 1, by omega⟩
      obtain ⟨x, hx⟩ : ∃ x, l[m]? = some x := ⟨_, List.getElem?_eq_getElem (by rw [HL.out]; omega)⟩
      have HXX := Lib.hid hx
      rcases (HS.out.next HB.out) with h | ⟨b, off, rfl, hb, hcell⟩
      · rw [h] at hx; simp at hx
      have c1 := hcell m x hx
      clear hx hcell
      by_cases hx0 : x = 0
      · have HZ2 := Lib.hid (show ∀ j y, m ≤ j → l[j]? = some y → y = 0 from fun j y hj hy => by
          rcases Nat.lt_or_ge m j with h | h
          · exact HZ.out j y h hy
          · obtain rfl : j = m := by omega
            rw [HXX.out] at hy
            rw [← Option.some.inj hy, hx0])
        subst hx0
        go_wp2_with fail
        refine ⟨⟨m, rfl, by omega, HZ2.out, HB.out⟩, by simp⟩
      · have HN := Lib.hid (show NSl wr (.slice (some ⟨b, off, none⟩) (m + 1) c) (In.nv 10000 l) from by
          have e := In.trim_is (k := m + 1) HX.out (by rw [HL.out]; exact hk) HZ.out (.inr ⟨x, HXX.out, hx0⟩)
          exact NSl.mk' (by rw [e, List.length_take, HL.out]; omega) (by omega) hc2 (fun h => by cases h) (by rw [e]; exact (HS.out.next HB.out).take _))
        have d1 : decide ((x : Int) = 0) = false := by simp; omega
        have d2 : ((x : Int) == 0) = false := by simp; omega
        go_wp2_with fail
        go_ret
        exact ⟨_, rfl, HN.out, HB.out⟩

/-- the group at an index -/
def dig (n : Nat) (i : Int) : Nat := if 0 ≤ i then n / 10000 ^ i.toNat % 10000 else 0
theorem dig_nat (n i : Nat) : dig n (i : Int) = n / 10000 ^ i % 10000 := by unfold dig; rw [if_pos (by omega), Int.toNat_natCast]
theorem dig_lt (n : Nat) (i : Int) : dig n i < 10000 := by unfold dig; split; exact Nat.mod_lt _ (by decide); decide
set_option maxHeartbeats 1000000 in
theorem group_any (o : Option Addr) (L c n : Nat) (i : Int) (w : World) (hL : (In.gs n).length = L) (hS : LSl w o (In.gs n)) :
    Calls Tryz.prog 71 #[.slice o L c, .int .i64 i] w fun e w' => e = .returned (.int .i64 (dig n i : Nat)) ∧ w = w' := by
  by_cases h0 : 0 ≤ i
  · obtain ⟨k, rfl⟩ := Int.eq_ofNat_of_zero_le h0
    rw [dig_nat]
    by_cases hk : k < L
    · have hx := In.gs_at (n := n) (i := k) (by rw [hL]; exact hk)
      generalize n / 10000 ^ k % 10000 = x at *
      rcases hS with h | ⟨b, off, rfl, hb, hcell⟩
      · rw [h] at hx; simp at hx
      have c1 := hcell k x hx
      clear hx hcell hL
      go_enter Tryz.func71, Tryz.ntmps71
      go_wp2_with fail
      go_ret
      exact ⟨rfl, rfl⟩
    · have hz := In.gs_out (n := n) (i := k) (by rw [hL]; omega)
      rw [hz]
      have d1 : decide ((k : Int) < (L : Int)) = false := by simp; omega
      clear hS hL hz
      go_enter Tryz.func71, Tryz.ntmps71
      go_wp2_with fail
      go_ret
      exact ⟨rfl, rfl⟩
  · have e : dig n i = 0 := by unfold dig; rw [if_neg h0]
    rw [e]
    have d1 : decide (0 ≤ i) = false := by simpa using h0
    clear hS hL
    go_enter Tryz.func71, Tryz.ntmps71
    go_wp2_with fail
    go_ret
    exact ⟨rfl, rfl⟩
def sgnI (d : Int) : Int := if d < 0 then -1 else if 0 < d then 1 else 0
set_option maxHeartbeats 400000 in
theorem sign_any (d : Int) (w : World) : Calls Tryz.prog 72 #[.int .i64 d] w fun e w' => e = .returned (.int .i64 (sgnI d)) ∧ w = w' := by
  have e : sgnI d = min 1 (max (-1) d) := by unfold sgnI; split <;> (try split) <;> omega
  rw [e]
  go_enter Tryz.func72, Tryz.ntmps72
  go_wp2_with fail
  go_ret
  exact ⟨rfl, rfl⟩
end Go.Proofs.YtjhnfejlkljkjaaGreatDoor
