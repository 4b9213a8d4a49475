/- SHA-256: the words' bytes. -/
import Derived.Test.YtnhlhoijajhcjaaDoorDigA
import Derived.OwnWalk
import Derived.Laws.AppendOwn
set_option linter.unusedVariables false
set_option linter.unusedSimpArgs false
set_option linter.unnecessarySimpa false
namespace Go.Proofs.YtnhlhoijajhcjaaDoor
open Go.RowKit

abbrev octV (x : Nat) : Value := .int .u8 x
theorem infoByte : (Tryd.prog.info? 5).map (fun i => (i.zero, i.size, i.bytes)) = some (some (.int .u8 0), 1, 1) := by kernel_rfl
theorem info_parts {P : Program} {t : TypeId} {z : Value} {s b : Nat} (h : (P.info? t).map (fun i => (i.zero, i.size, i.bytes)) = some (some z, s, b)) : ∃ i, P.info? t = some i ∧ i.zero = some z ∧ i.size = s ∧ i.bytes = b := by
  cases hq : P.info? t with
  | none => simp [hq] at h
  | some i =>
    simp [hq] at h
    exact ⟨i, rfl, h.1, h.2.1, h.2.2⟩
theorem cells_new (w : World) (C : List Value) (t : TypeId) : ∀ j u, C[j]? = some u → (w.alloc (.cells C.toArray t)).cell? ((⟨w.heap.size, 0, none⟩ : Addr).add j) = some u := by
  intro j u hj
  have e : Addr.add ⟨w.heap.size, 0, none⟩ j = ⟨w.heap.size, j, none⟩ := by unfold Addr.add; split <;> simp_all
  rw [e, (Row.new w t C).cell j]
  exact hj
theorem own_block {W : World} {b k : Nat} {e : TypeId} {size : Nat} {v : Value} {xs : List Value} (h : W.ownsRow b e size v k xs) : ∀ j, v.ownBlock = some j → b ≤ j := by
  intro j hj
  rcases h.2 with ⟨rfl, _⟩ | ⟨g, cap, cur, rfl, hgb, _⟩
  · cases hj
  · simp [Value.ownBlock] at hj
    omega
theorem own_is {W : World} {b n m : Nat} {e : TypeId} {size : Nat} {v : Value} {xs ys : List Value} (h : W.ownsRow b e size v n xs) (hn : n = m) (hx : xs = ys) : W.ownsRow b e size v m ys := by subst hn hx; exact h
theorem octets_length (ws : List Nat) : (Sha.octets ws).length = 4 * ws.length := by
  induction ws with
  | nil => rfl
  | cons a ws ih => simp only [Sha.octets, List.map_cons, List.flatten_cons, List.length_append, List.length_cons] at ih ⊢; rw [ih]; simp [Sha.octet]; omega
theorem octets_more (ws : List Nat) (x : Nat) : Sha.octets (ws ++ [x]) = Sha.octets ws ++ Sha.octet x := by simp [Sha.octets]

set_option maxRecDepth 100000 in
set_option maxHeartbeats 1000000 in
theorem octets_any (b cap : Nat) (t : TypeId) (ws : List Nat) (w : World) (hR : Row w b t (ws.map wordV)) (hl : ws.length ≤ 8) (hw : ∀ x ∈ ws, x < 2 ^ 32) :
    Calls Tryd.prog 80 #[.slice (some ⟨b, 0, none⟩) ws.length cap] w fun e w' => ∃ v, e = .returned v ∧ Below w.heap.size w w' ∧ w'.ownsRow w.heap.size 5 1 v (Sha.octets ws).length ((Sha.octets ws).map octV) := by
  obtain ⟨i0, hi, hz0, hz1, hz2⟩ := info_parts infoByte
  have HR := Lib.hid hR
  have HW := Lib.hid hw
  clear hR hw
  go_enter Tryd.func80, Tryd.ntmps80
  go_wp2
  go_loopw [3, 8] (fun v i wr => ∃ j : Nat, j ≤ ws.length ∧ i = .int .i64 j ∧ wr.ownsRow w.heap.size 5 1 v (Sha.octets (ws.take j)).length ((Sha.octets (ws.take j)).map octV) ∧ Below w.heap.size w wr) (fun _ i _ => ws.length - (intOf i).toNat)
  case atStart => exact ⟨0, Nat.zero_le _, rfl, World.ownsRow_nil _ _ _ _, Below.refl _ _⟩
  case round =>
    obtain ⟨j, hj, rfl, hrow, hB⟩ := hrel
    have hlen := octets_length (ws.take j)
    rw [List.length_take, Nat.min_eq_left hj] at hlen
    rw [hlen] at hrow
    by_cases hlt : j < ws.length
    · have hc := (HR.out.next hB).cell j
      rw [List.getElem?_map, List.getElem?_eq_getElem hlt] at hc
      simp only [Option.map_some] at hc
      have hx := HW.out ws[j] (List.getElem_mem _)
      have HT := Lib.hid (show Sha.octets (ws.take (j + 1)) = Sha.octets (ws.take j) ++ Sha.octet ws[j] by rw [List.take_succ_eq_append_getElem hlt, octets_more])
      have hlen' := octets_length (ws.take (j + 1))
      rw [List.length_take, Nat.min_eq_left hlt] at hlen'
      have HL := Lib.hid hlen'
      have hob := own_block hrow
      have HB := Lib.hid hB
      have hbs := hB.size
      clear hlen hlen' hB
      generalize ws[j] = x at *
      go_wp2_with (at_builtin; refine wpList_append_own _ rfl _ _ 56 rfl w.heap.size 5 i0 (.int .u8 0) 1 1 Tryd.underlying56 hi hz0 hz1 hz2 rfl (by decide) _ _ _ rfl (hrow.alloc _) ⟨wr.heap.size, 0, none⟩ 4 4 [_, _, _, _] rfl rfl (cells_new _ _ _) (by simp [Value.oneCell']) (by unfold maxLen; omega) (by omega) (by simp; omega) ?_; intro v' w1 hown' hgrow _; have K := Lib.hid (And.intro hown' hgrow); clear hown' hgrow hrow)
      go_roundw
      case rel =>
        obtain ⟨hown', hgrow⟩ := K.out
        refine ⟨j + 1, by omega, by go_num, own_is hown' (by rw [HL.out]; omega) ?_, (HB.out.alloc hbs _).grown hgrow (by simp; omega) hob⟩
        rw [HT.out, List.map_append]
        congr 1
        simp [Sha.octet]
        omega
      case measure => simp [intOf]; omega
    · obtain rfl : j = ws.length := by omega
      rw [List.take_length] at hrow hlen
      rw [← hlen] at hrow
      have HB := Lib.hid (And.intro hB hrow)
      clear hB hlen hrow
      go_wp2
      go_ret
      exact ⟨_, rfl, HB.out⟩
end Go.Proofs.YtnhlhoijajhcjaaDoor
