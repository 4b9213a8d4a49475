/- heads, as a contract. -/
import Derived.Test.YtojfblkmhdgjeaaDoorDigX
namespace Go.Proofs.YtojfblkmhdgjeaaDoor
open Go.RowKit Go.ChangeShapes Go.WideShapes Go.ChangeAt
theorem madeS_one (w : World) {B n : Nat} (x : ByteArray) (hB : B ≤ w.heap.size) (hn : w.heap.size = n) : OwnS (w.alloc (.cells #[.string x] 9)) B (.slice (some ⟨n, 0, none⟩) 1 1) [x] := made_one w x hB hn

def zero32 : ByteArray := ⟨(List.replicate 32 0).toArray⟩
/-- the head of records, the last one first, and the strings that are hashed for it -/
def hdZ : List ByteArray → ByteArray
  | [] => zero32
  | x :: r => chainS (hdZ r) x
def outZ : List ByteArray → List ByteArray
  | [] => []
  | x :: r => (⟨#[2]⟩ ++ hdZ r ++ x) :: outZ r
theorem zero32_size : zero32.size = 32 := rfl
theorem hdZ_size (Z : List ByteArray) : (hdZ Z).size = 32 := by
  cases Z with
  | nil => exact zero32_size
  | cons x r => exact chainS_size _ _
theorem outZ_length (Z : List ByteArray) : (outZ Z).length = Z.length := by
  induction Z with
  | nil => rfl
  | cons x r ih => simp [outZ, ih]
/-- 32 zero bytes, as they lie in memory -/
def zeroC : Array Value := (List.replicate 32 (Value.int .u8 0)).toArray
theorem make_zero (w : World) : (Instr.makeSlice 43 (.int .i64 32) (.int .i64 32)).run Tryd.prog w = .ok (.slice (some ⟨w.heap.size, 0, none⟩) 32 32) (w.alloc (.cells zeroC 5)) := by
  obtain ⟨i0, hi, hz0, hz1, hz2⟩ := info_parts infoByte
  exact run_make_row (P := Tryd.prog) w 43 5 i0 _ 1 Tryd.underlying43 hi hz0 hz1 hz2 rfl 32 (by omega) (by omega)
theorem string_zero {w : World} {b : Nat} (h : Row w b 5 zeroC.toList) : (convert 43 9 (.slice (some ⟨b, 0, none⟩) 32 32)).run Tryd.prog w = .ok (.string zero32) w :=
  Row.text (l := List.replicate 32 0) (cap := 32) (by simpa [zeroC] using h) 43 9 5 Tryd.underlying43 Tryd.underlying5 Tryd.underlying9
set_option maxRecDepth 100000 in
set_option maxHeartbeats 2000000 in
theorem heads_any (xs : List ByteArray) (o : Option Addr) (c : Nat) (w : World) (T : Tab w) (hS : StrSl w o xs) (hl : xs.length ≤ 100) (hx : ∀ x ∈ xs, x.size ≤ 60) :
    Calls Tryd.prog 36 #[.slice o xs.length c] w fun e w' => ∃ o' c', e = .returned (.tuple #[.slice o' xs.length c', .string (hdZ xs.reverse)]) ∧ (o' = none → c' = 0) ∧ StrSl w' o' (outZ xs.reverse) ∧ Below w.heap.size w w' := by
  have HT := Lib.hid T
  have HX := Lib.hid hS
  have HXS := Lib.hid hx
  have BB := Lib.hid (Below.refl w.heap.size w)
  obtain ⟨N, hN⟩ : ∃ N, xs.length = N := ⟨_, rfl⟩
  rw [hN] at hl ⊢
  have HN := Lib.hid hN
  have hmk := make_zero w
  have hcv := string_zero (Row.new w 5 zeroC.toList)
  rw [Array.toArray_toList] at hcv
  clear T hS hx hN
  go_enter Tryd.func36, Tryd.ntmps36
  go_wp2_with fail
  have hbz : Below w.heap.size w (w.alloc (.cells zeroC 5)) := (Below.refl _ _).alloc (Nat.le_refl _) _
  have HBZ := Lib.hid hbz
  clear hmk hcv hbz
  go_loopw [4, 5, 6] (fun h v i wr => ∃ k po c, k ≤ N ∧ i = .int .i64 k ∧ v = .slice po k c ∧ h = .string (hdZ (xs.take k).reverse) ∧ (po = none → c = 0) ∧ StrSl wr po (outZ (xs.take k).reverse) ∧ Below w.heap.size w wr) (fun _ _ i _ => N - (intOf i).toNat)
  case atStart => exact ⟨0, none, 0, Nat.zero_le _, rfl, rfl, rfl, fun _ => rfl, .inl rfl, HBZ.out⟩
  case round =>
    obtain ⟨k, po, c2, hk, rfl, rfl, rfl, hnil, hS, hB⟩ := hrel
    replace HT := Lib.hid (HT.out.next hB)
    replace HX := Lib.hid (HX.out.next hB)
    have BB2 := BB
    replace BB := Lib.hid hB
    have HS := Lib.hid hS
    have HNIL := Lib.hid hnil
    clear hB hS hnil
    by_cases hlt : k < N
    · obtain ⟨x, hx⟩ : ∃ x, xs[k]? = some x := ⟨_, List.getElem?_eq_getElem (by rw [HN.out]; exact hlt)⟩
      have hsx := HXS.out x (List.mem_of_getElem? hx)
      have htk : (xs.take (k + 1)).reverse = x :: (xs.take k).reverse := by rw [List.take_add_one, hx]; simp
      have HL := Lib.hid (show (outZ (xs.take k).reverse).length = k by rw [outZ_length, List.length_reverse, List.length_take, HN.out]; omega)
      have hh := hdZ_size (xs.take k).reverse
      have CN := Lib.hid (fun w' (T' : Tab w') => Chain_any (hdZ (xs.take k).reverse) x w' T' (by omega))
      have HH := Lib.hid (show hdZ (xs.take (k + 1)).reverse = chainS (hdZ (xs.take k).reverse) x by rw [htk]; rfl)
      have HO := Lib.hid (show outZ (xs.take (k + 1)).reverse = (⟨#[2]⟩ ++ hdZ (xs.take k).reverse ++ x) :: outZ (xs.take k).reverse by rw [htk]; rfl)
      have m1 : ¬ 9223372036854775807 < 1 + (hdZ (xs.take k).reverse).size + x.size := by omega
      have m2 : ¬ 9223372036854775807 < 1 + (hdZ (xs.take k).reverse).size := by omega
      generalize hdZ (xs.take k).reverse = V at *
      generalize outZ (xs.take k).reverse = OS at *
      rcases HX.out with h | ⟨b, off, rfl, hb, hcb⟩
      · rw [h] at hx; simp at hx
      have c1 := hcb k x hx
      have h40 : 1 + k ≤ 2 ^ 40 := by omega
      clear hx hcb hsx hh htk
      go_wp2_with (first
        | (at_builtin; refine wpList_append_strs rfl _ _ rfl rfl wr.heap.size (.slice (some ⟨wr.heap.size, 0, none⟩) 1 1) [(⟨#[2]⟩ : ByteArray) ++ V ++ x] rfl (madeS_one wr _ (Nat.le_refl _) rfl) po k c2 OS rfl HL.out HNIL.out (HS.out.next ((Below.refl wr.heap.size wr).alloc (Nat.le_refl _) _)) h40 (by simp) ?_; intro v' w4 hown' hgrow; obtain ⟨b4, c4, hv4, hS4⟩ := own_some HL.out hown'; subst hv4; have HS4 := Lib.hid hS4; have hbl := ((Below.refl wr.heap.size wr).alloc (Nat.le_refl _) (.cells #[.string ((⟨#[2]⟩ : ByteArray) ++ V ++ x)] 9)).grown hgrow (by simp) (fun k hk => by simp [Value.ownBlock] at hk; omega); have HT4 := Lib.hid (HT.out.next hbl); have c4x := (hbl.cell (p := ⟨b, off + k, none⟩) hb).trans c1; have HB4 := Lib.hid (Below.andThen BB.out hbl); clear hown' hgrow hbl hS4)
        | (with_reducible refine Calls.mono (CN.out _ HT4.out) ?_; rintro e w5 ⟨rfl, hb5⟩; have HB5 := Lib.hid (Below.andThen HB4.out hb5); have HS5 := Lib.hid (HS4.out.next hb5); clear hb5))
      refine ⟨⟨k + 1, _, _, by omega, by go_num, rfl, by rw [HH.out], (fun h => by cases h), by rw [HO.out]; exact HS5.out, HB5.out⟩, by simp [intOf]; omega⟩
    · obtain rfl : k = N := by omega
      have HE := Lib.hid (show (xs.take k).reverse = xs.reverse by rw [List.take_of_length_le (by rw [HN.out]; exact Nat.le_refl _)])
      have HHH := Lib.hid (show hdZ (xs.take k).reverse = hdZ xs.reverse by rw [HE.out])
      replace HS := Lib.hid (show StrSl wr po (outZ xs.reverse) by rw [← HE.out]; exact HS.out)
      rw [HHH.out]
      clear hlt
      go_wp2_with fail
      go_ret2
      exact ⟨po, c2, rfl, HNIL.out, HS.out, BB.out⟩
end Go.Proofs.YtojfblkmhdgjeaaDoor
