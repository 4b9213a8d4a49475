/- Proof. -/
import Derived.Test.YtojfblkmhdgjeaaDoorDigP
import Derived.Deep.RegionLaw
import Derived.Deep.AppendLies
namespace Go.Proofs.YtojfblkmhdgjeaaDoor
open Go.RowKit Go.Shelf

theorem infoStr : (Tryd.prog.info? 9).map (fun i => (i.zero, i.size, i.bytes)) = some (some (.string ⟨#[]⟩), 1, 16) := by kernel_rfl
theorem infoBool : (Tryd.prog.info? 4).map (fun i => (i.zero, i.size, i.bytes)) = some (some (.bool false), 1, 1) := by kernel_rfl
theorem strV_one (xs : List ByteArray) : ∀ u ∈ xs.map strV, u.oneCell' = true := by
  intro u hu
  obtain ⟨x, _, rfl⟩ := List.mem_map.1 hu
  rfl
/-- a slice that a function made -/
theorem own_str {w : World} {B : Nat} {t : TypeId} {o : Option Addr} {c : Nat} {xs : List ByteArray} (h : w.ownsRow B t 1 (.slice o xs.length c) xs.length (xs.map strV)) : StrSl w o xs := by
  rcases h.2 with ⟨h1, h0⟩ | ⟨g, cap, cur, h1, hg, hb, _⟩
  · exact .inl (List.eq_nil_of_length_eq_zero h0)
  · cases h1
    refine .inr ⟨g, 0, rfl, (Array.getElem?_eq_some_iff.1 hb).1, fun j x hx => ?_⟩
    have := h.cells (g := g) rfl j (strV x) (by rw [List.getElem?_map, hx]; rfl)
    have e : Addr.add ⟨g, 0, none⟩ j = ⟨g, j, none⟩ := by unfold Addr.add; split <;> simp_all
    rw [e] at this
    rw [Nat.zero_add]
    exact this
theorem own_form {w : World} {B : Nat} {t : TypeId} {s : Nat} {V : Value} {n : Nat} {xs : List Value} (h : w.ownsRow B t s V n xs) : ∃ o c, V = .slice o n c ∧ n ≤ c ∧ c ≤ maxLen ∧ (o = none → n = 0 ∧ c = 0) := by
  rcases h.2 with ⟨rfl, rfl⟩ | ⟨g, cap, cur, rfl, _, _, h1, h2, _⟩
  · exact ⟨none, 0, rfl, Nat.le_refl _, Nat.zero_le _, fun _ => ⟨rfl, rfl⟩⟩
  · exact ⟨some ⟨g, 0, none⟩, cap, rfl, h1, h2, fun h => by cases h⟩
theorem below_own {w w' : World} {B : Nat} {t : TypeId} {s : Nat} {v : Value} {n : Nat} {xs : List Value} (h : w.ownsRow B t s v n xs) (hb : Below w.heap.size w w') : w'.ownsRow B t s v n xs :=
  h.kept (row := none) (below_grown hb none) (by cases v.ownBlock with | none => exact .inl rfl | some b => exact .inr (by simp))

set_option maxHeartbeats 400000 in
theorem Clip_any (o : Option Addr) (n c : Nat) (w : World) (h : n ≤ c) (hc : c ≤ maxLen) (ho : o = none → n = 0 ∧ c = 0) : Calls Tryd.prog 49 #[.slice o n c] w fun e w' => e = .returned (.slice o n n) ∧ w = w' := by
  unfold maxLen at hc
  cases o with
  | none =>
    obtain ⟨rfl, rfl⟩ := ho rfl
    clear ho
    go_enter Tryd.func49, Tryd.ntmps49
    go_wp2
    go_ret
    exact ⟨rfl, rfl⟩
  | some a =>
    clear ho
    go_enter Tryd.func49, Tryd.ntmps49
    go_wp2
    go_ret
    exact ⟨rfl, rfl⟩

/-! ### a slice that a function made, turned around -/
def EncSl {α : Type} (enc : α → Value) (w : World) (o : Option Addr) (xs : List α) : Prop := xs = [] ∨ ∃ b off, o = some ⟨b, off, none⟩ ∧ b < w.heap.size ∧ ∀ j x, xs[j]? = some x → w.cell? ⟨b, off + j, none⟩ = some (enc x)
theorem EncSl.next {α : Type} {enc : α → Value} {w w' : World} {o : Option Addr} {xs : List α} (h : EncSl enc w o xs) (hb : Below w.heap.size w w') : EncSl enc w' o xs := by
  rcases h with h | ⟨b, off, rfl, hl, hc⟩
  · exact .inl h
  · exact .inr ⟨b, off, rfl, Nat.lt_of_lt_of_le hl hb.size, fun j x hx => (hb.cell (p := ⟨b, off + j, none⟩) hl).trans (hc j x hx)⟩
theorem own_holds {α : Type} [Inhabited α] {enc : α → Value} {w : World} {B : Nat} {t : TypeId} {g n c : Nat} {xs : List α} (h : w.ownsRow B t 1 (.slice (some ⟨g, 0, none⟩) n c) n (xs.map enc)) (hn : xs.length = n) : Sort.Holds enc w g 0 xs.toArray := by
  intro j hj
  have hj' : j < xs.length := by simpa using hj
  have hc := h.cells (g := g) rfl j (enc xs[j]) (by rw [List.getElem?_map, List.getElem?_eq_getElem hj']; rfl)
  have e : Addr.add ⟨g, 0, none⟩ j = ⟨g, j, none⟩ := by unfold Addr.add; split <;> simp_all
  rw [e] at hc
  have e2 : xs.toArray[j]! = xs[j] := by rw [getElem!_pos xs.toArray j hj]; simp
  rw [Nat.zero_add, e2]
  refine ⟨hc, ?_⟩
  rcases h.2 with ⟨h1, _⟩ | ⟨g', cap, cur, h1, hg, hb, _⟩
  · cases h1
  · cases h1
    simp [World.frozen?, hb]
theorem put_below {α : Type} [Inhabited α] (enc : α → Value) (w : World) (n B g : Nat) (d : Array α) (h : B ≤ g) : Below B w (Sort.putRow enc (Sort.ahead w n) g 0 d) :=
  ⟨rfl, rfl, rfl, by simp [Sort.ahead], fun k hk => by
    show (w.heap.modify g _)[k]? = _
    rw [Array.getElem?_modify, if_neg (by omega)]⟩
theorem put_sl {α : Type} [Inhabited α] {enc : α → Value} {w : World} {g n : Nat} {xs ys : List α} (h : Sort.Holds enc w g 0 xs.toArray) (hl : ys.length = xs.length) (hg : g < w.heap.size) : EncSl enc (Sort.putRow enc (Sort.ahead w n) g 0 ys.toArray) (some ⟨g, 0, none⟩) ys := by
  refine .inr ⟨g, 0, rfl, by simpa [Sort.ahead] using hg, fun j x hx => ?_⟩
  have hj : j < ys.length := (List.getElem?_eq_some_iff.1 hx).1
  rw [Sort.cell?_putRow enc (Sort.ahead w n) g 0 xs.toArray ys.toArray h (by simpa using hl) j (by simpa using hj)]
  rw [getElem!_pos ys.toArray j (by simpa using hj)]
  rw [List.getElem?_eq_getElem hj] at hx
  simp at hx ⊢
  rw [hx]
theorem Rev_string {B c : Nat} {o : Option Addr} {xs : List ByteArray} {w : World} (h : w.ownsRow B 9 1 (.slice o xs.length c) xs.length (xs.map strV)) (hn : xs.length ≤ 2 ^ 46) :
    Calls Tryd.prog 48 #[.slice o xs.length c] w fun e w' => e = .returned (.tuple #[]) ∧ EncSl strV w' o xs.reverse ∧ Below B w w' := by
  rcases h.2 with ⟨h1, h0⟩ | ⟨g, cap, cur, h1, hg, hb, _⟩
  · obtain rfl : xs = [] := List.eq_nil_of_length_eq_zero h0
    refine (Tryd.slices_Reverse_empty_f48 (α := Nat) o c w).mono ?_
    rintro e w' ⟨rfl, rfl⟩
    exact ⟨rfl, .inl rfl, Below.refl _ _⟩
  · cases h1
    have hH := own_holds h rfl
    refine (Tryd.slices_Reverse_f48 strV (fun _ => rfl) g 0 c xs w hH (by omega)).mono ?_
    rintro e w' ⟨rfl, n, rfl⟩
    exact ⟨rfl, put_sl hH (by simp) (Array.getElem?_eq_some_iff.1 hb).1, put_below _ _ _ _ _ _ hg⟩
theorem Rev_bool {B c : Nat} {o : Option Addr} {xs : List Bool} {w : World} (h : w.ownsRow B 4 1 (.slice o xs.length c) xs.length (xs.map Value.bool)) (hn : xs.length ≤ 2 ^ 46) :
    Calls Tryd.prog 53 #[.slice o xs.length c] w fun e w' => e = .returned (.tuple #[]) ∧ EncSl Value.bool w' o xs.reverse ∧ Below B w w' := by
  rcases h.2 with ⟨h1, h0⟩ | ⟨g, cap, cur, h1, hg, hb, _⟩
  · obtain rfl : xs = [] := List.eq_nil_of_length_eq_zero h0
    refine (Tryd.slices_Reverse_empty_f53 (α := Nat) o c w).mono ?_
    rintro e w' ⟨rfl, rfl⟩
    exact ⟨rfl, .inl rfl, Below.refl _ _⟩
  · cases h1
    have hH := own_holds h rfl
    refine (Tryd.slices_Reverse_f53 Value.bool (fun _ => rfl) g 0 c xs w hH (by omega)).mono ?_
    rintro e w' ⟨rfl, n, rfl⟩
    exact ⟨rfl, put_sl hH (by simp) (Array.getElem?_eq_some_iff.1 hb).1, put_below _ _ _ _ _ _ hg⟩

theorem Proof_out (o : Option Addr) (n c : Nat) (i : Int) (w : World) (h : i < 0 ∨ (n : Int) ≤ i) : Calls Tryd.prog 22 #[.slice o n c, .int .i64 i] w fun e w' => e = .returned (.tuple #[.slice none 0 0, .int .i64 2]) ∧ w = w' := by
  by_cases h1 : i < 0
  · have d1 : decide (i < 0) = true := by simpa using h1
    go_enter Tryd.func22, Tryd.ntmps22
    go_wp2
    go_ret2
    exact ⟨rfl, rfl⟩
  · have d1 : decide (i < 0) = false := by simpa using h1
    have d2 : decide ((n : Int) ≤ i) = true := by simp; omega
    go_enter Tryd.func22, Tryd.ntmps22
    go_wp2
    go_ret2
    exact ⟨rfl, rfl⟩

set_option maxRecDepth 100000 in
set_option maxHeartbeats 2000000 in
theorem Proof_any (xs : List ByteArray) (o : Option Addr) (c i : Nat) (w : World) (T : Tab w) (hS : StrSl w o xs) (hN : xs.length ≤ c) (hc : c ≤ 9223372036854775807) (hxs : xs.length ≤ 2 ^ 40) (hx : ∀ x ∈ xs, x.size ≤ 2 ^ 38) (hi : i < xs.length) :
    Calls Tryd.prog 22 #[.slice o xs.length c, .int .i64 i] w fun e w' => ∃ o', e = .returned (.tuple #[.slice o' (proofS xs i).length (proofS xs i).length, .int .i64 0]) ∧ StrSl w' o' (proofS xs i) ∧ Below w.heap.size w w' := by
  obtain ⟨i0, hi0, hz0, hz1, hz2⟩ := info_parts infoStr
  have HT := Lib.hid T
  have HX := Lib.hid hx
  have HS := Lib.hid hS
  have d1 : decide ((i : Int) < 0) = false := by simp
  have d2 : decide (xs.length ≤ i) = false := by simp; omega
  obtain ⟨PR, hPR⟩ : ∃ PR, PR = proofS xs i := ⟨_, rfl⟩
  have HPR := Lib.hid hPR
  rw [← hPR]
  clear T hx hS hPR
  go_enter Tryd.func22, Tryd.ntmps22
  go_wp2
  clear d1 d2
  go_loopw [6, 0, 1] (fun v l j wr => ∃ (V : Value) (ys acc : List ByteArray) (o : Option Addr) (c k : Nat), V = v ∧ l = .slice o ys.length c ∧ j = .int .i64 k ∧ k < ys.length ∧ ys.length ≤ c ∧ c ≤ 9223372036854775807 ∧ StrSl w o ys ∧ (∀ x ∈ ys, x.size ≤ 2 ^ 38) ∧
      PR = proofS ys k ++ acc.reverse ∧ acc.length + ys.length ≤ xs.length ∧ wr.ownsRow w.heap.size 9 1 v acc.length (acc.map strV) ∧ Below w.heap.size w wr)
    (fun _ l _ _ => match l with | .slice _ n _ => n | _ => 0)
  case atStart => exact ⟨_, xs, [], o, c, i, rfl, rfl, rfl, hi, hN, hc, HS.out, HX.out, by rw [HPR.out]; simp, by simp, World.ownsRow_nil _ _ _ _, Below.refl _ _⟩
  case round =>
    clear HPR HS HX hi hN hc
    obtain ⟨V, ys, acc, o, c, k, rfl, rfl, rfl, hk, hN, hc, hS, hx, hPR, hal, hown, hB⟩ := hrel
    by_cases hlt : 2 ≤ ys.length
    · rcases hS with h | ⟨b, off, rfl, hl, hcell⟩
      · rw [h] at hlt; simp at hlt
      have h1 := splitN_lt hlt
      have h0 := splitN_pos ys.length
      have d3 : decide (1 < (ys.length : Int)) = true := by simp; omega
      have CP := Lib.hid (fun w => split_any ys.length w hlt (by omega))
      by_cases hkl : k < splitN ys.length
      · have d4 : decide ((k : Int) < splitN ys.length) = true := by simp; omega
        have CR := Lib.hid (fun w' (hb : Below w.heap.size w w') => Root_any (ys.length - splitN ys.length) (ys.drop (splitN ys.length)) (some ⟨b, off + splitN ys.length, none⟩) (c - splitN ys.length) w' (by rw [List.length_drop]) (HT.out.next hb)
          (.inr ⟨b, off + splitN ys.length, rfl, Nat.lt_of_lt_of_le hl hb.size, fun j x hx => (hb.cell (p := ⟨b, _, none⟩) hl).trans (by rw [List.getElem?_drop] at hx; rw [Nat.add_assoc]; exact hcell _ x hx)⟩) (by omega) (by omega) (fun x h => hx x (List.mem_of_mem_drop h)))
        have HN := Lib.hid (show PR = proofS (ys.take (splitN ys.length)) k ++ (acc ++ [rootS (ys.drop (splitN ys.length))]).reverse by rw [hPR, proofS_left hlt hkl]; simp)
        have HLT := Lib.hid (show (ys.take (splitN ys.length)).length = splitN ys.length by rw [List.length_take]; omega)
        have HS := Lib.hid (show StrSl w (some ⟨b, off, none⟩) (ys.take (splitN ys.length)) from .inr ⟨b, off, rfl, hl, fun j x hx => hcell j x (by rw [List.getElem?_take] at hx; split at hx <;> simp_all)⟩)
        have HX := Lib.hid (fun x (h : x ∈ ys.take (splitN ys.length)) => hx x (List.mem_of_mem_take h))
        have HO := Lib.hid (And.intro hown hB)
        generalize rootS (ys.drop (splitN ys.length)) = r at *
        generalize ys.take (splitN ys.length) = zs at *
        generalize splitN ys.length = K at *
        generalize ys.length = n at *
        clear hPR hx hown hB hcell
        have q1 : K ≤ n := by omega
        have q2 : K ≤ c := by omega
        have q3 : ¬ c = K := by omega
        go_wp2_with fail
        refine (CP.out _).mono ?_
        rintro e w' ⟨rfl, rfl⟩
        clear CP
        rename World => wr
        go_upto_region 7 with (fail)
        go_region_law (first
          | (go_simp; go_at_call 27; have hq := HO.out.2.drew; with_reducible refine Calls.mono (CR.out _ hq) ?_; clear hq; rintro e wx ⟨rfl, hb⟩; have HB1 := Lib.hid (Below.andThen (Below.refl wr.heap.size wr).drew hb); clear hb)
          | (refine step_append_lies _ rfl (.tmp 25) (.tmp 30) 26 rfl w.heap.size 9 i0 (.string ⟨#[]⟩) 1 16 Tryd.underlying26 hi0 hz0 hz1 hz2 rfl (by decide) V acc.length (acc.map strV) rfl ((below_own HO.out.1 HB1.out).alloc _) _ 1 1 [.string r] rfl rfl (cells_new _ _ _) (by simp [Value.oneCell']) (by decide) (by unfold maxLen; omega) (by omega) (by have := HO.out.2.size; have := HB1.out.size; simp; omega) _ rfl ?_; intro g cap w2 hown2 hgrow _ _; have HG := Lib.hid (And.intro hown2 hgrow); clear hown2 hgrow))
        go_simp
        go_wp2_with fail
        go_roundw
        case rel =>
          obtain ⟨hown2, hgrow⟩ := HG.out
          have hbx : Below w.heap.size w (wx.alloc (.cells #[.string r] 9)) := (HO.out.2.trans (HB1.out.mono HO.out.2.size)).alloc (by have := HO.out.2.size; have := HB1.out.size; omega) _
          refine ⟨_, zs, acc ++ [r], some ⟨b, off, none⟩, c, k, rfl, by rw [HLT.out], rfl, by rw [HLT.out]; omega, by rw [HLT.out]; omega, hc, HS.out, HX.out, HN.out, by rw [HLT.out]; simp; omega, ?_, ?_⟩
          · rw [List.map_append, List.length_append]
            exact hown2
          · exact hbx.grown hgrow (by have := HO.out.2.size; have := HB1.out.size; simp; omega) (own_block HO.out.1)
        case measure => simp; omega
      · have d4 : decide ((k : Int) < splitN ys.length) = false := by simp; omega
        have CR := Lib.hid (fun w' (hb : Below w.heap.size w w') => Root_any (splitN ys.length) (ys.take (splitN ys.length)) (some ⟨b, off, none⟩) c w' (by rw [List.length_take]; omega) (HT.out.next hb)
          (.inr ⟨b, off, rfl, Nat.lt_of_lt_of_le hl hb.size, fun j x hx => (hb.cell (p := ⟨b, _, none⟩) hl).trans (hcell j x (by rw [List.getElem?_take] at hx; split at hx <;> simp_all))⟩) (by omega) (by omega) (fun x h => hx x (List.mem_of_mem_take h)))
        have HN := Lib.hid (show PR = proofS (ys.drop (splitN ys.length)) (k - splitN ys.length) ++ (acc ++ [rootS (ys.take (splitN ys.length))]).reverse by rw [hPR, proofS_right hlt hkl]; simp)
        have HLT := Lib.hid (show (ys.drop (splitN ys.length)).length = ys.length - splitN ys.length by rw [List.length_drop])
        have HS := Lib.hid (show StrSl w (some ⟨b, off + splitN ys.length, none⟩) (ys.drop (splitN ys.length)) from .inr ⟨b, off + splitN ys.length, rfl, hl, fun j x hx => by rw [List.getElem?_drop] at hx; rw [Nat.add_assoc]; exact hcell _ x hx⟩)
        have HX := Lib.hid (fun x (h : x ∈ ys.drop (splitN ys.length)) => hx x (List.mem_of_mem_drop h))
        have HO := Lib.hid (And.intro hown hB)
        generalize rootS (ys.take (splitN ys.length)) = r at *
        generalize ys.drop (splitN ys.length) = zs at *
        generalize splitN ys.length = K at *
        generalize ys.length = n at *
        clear hPR hx hown hB hcell
        have q1 : K ≤ n := by omega
        have q2 : K ≤ c := by omega
        have q3 : ¬ c = K := by omega
        have q4 : IntKind.i64.wrap ((k : Int) - K) = (k : Int) - K := by simp [IntKind.wrap, IntKind.bits, IntKind.signed]; omega
        go_wp2_with fail
        refine (CP.out _).mono ?_
        rintro e w' ⟨rfl, rfl⟩
        clear CP
        rename World => wr
        go_upto_region 8 with (fail)
        go_region_law (first
          | (go_simp; go_at_call 27; have hq := HO.out.2.drew; with_reducible refine Calls.mono (CR.out _ hq) ?_; clear hq; rintro e wx ⟨rfl, hb⟩; have HB1 := Lib.hid (Below.andThen (Below.refl wr.heap.size wr).drew hb); clear hb)
          | (refine step_append_lies _ rfl (.tmp 35) (.tmp 40) 26 rfl w.heap.size 9 i0 (.string ⟨#[]⟩) 1 16 Tryd.underlying26 hi0 hz0 hz1 hz2 rfl (by decide) V acc.length (acc.map strV) rfl ((below_own HO.out.1 HB1.out).alloc _) _ 1 1 [.string r] rfl rfl (cells_new _ _ _) (by simp [Value.oneCell']) (by decide) (by unfold maxLen; omega) (by omega) (by have := HO.out.2.size; have := HB1.out.size; simp; omega) _ rfl ?_; intro g cap w2 hown2 hgrow _ _; have HG := Lib.hid (And.intro hown2 hgrow); clear hown2 hgrow))
        go_simp
        go_wp2_with fail
        go_roundw
        case rel =>
          obtain ⟨hown2, hgrow⟩ := HG.out
          have hbx : Below w.heap.size w (wx.alloc (.cells #[.string r] 9)) := (HO.out.2.trans (HB1.out.mono HO.out.2.size)).alloc (by have := HO.out.2.size; have := HB1.out.size; omega) _
          refine ⟨_, zs, acc ++ [r], some ⟨b, off + K, none⟩, c - K, k - K, rfl, by rw [HLT.out], vint (by omega), by rw [HLT.out]; omega, by rw [HLT.out]; omega, by omega, HS.out, HX.out, HN.out, by rw [HLT.out]; simp; omega, ?_, ?_⟩
          · rw [List.map_append, List.length_append]
            exact hown2
          · exact hbx.grown hgrow (by have := HO.out.2.size; have := HB1.out.size; simp; omega) (own_block HO.out.1)
        case measure => simp; omega
    · have h1 : ys.length = 1 := by omega
      have d3 : decide (1 < (ys.length : Int)) = false := by simp; omega
      have hPR' : PR = acc.reverse := by rw [hPR, proofS_one (by omega)]; simp
      obtain ⟨vo, vc, rfl, v1, v2, v3⟩ := own_form hown
      have CR := Lib.hid (Rev_string hown (by omega))
      have CC := Lib.hid (fun w => Clip_any vo acc.length vc w v1 v2 v3)
      have HB := Lib.hid hB
      have HP := Lib.hid hPR'
      clear hown hx hS hPR hPR' v1 v2 v3 hB
      go_wp2_with fail
      refine CR.out.mono ?_
      rintro e w2 ⟨rfl, hs, hb⟩
      have HS := Lib.hid (And.intro hs hb)
      clear CR hs hb
      go_wp2_with fail
      refine (CC.out _).mono ?_
      rintro e w3 ⟨rfl, rfl⟩
      clear CC
      go_wp2_with fail
      go_ret2
      refine ⟨vo, ?_, by rw [HP.out]; exact HS.out.1, HB.out.trans HS.out.2⟩
      rw [HP.out]
      simp
end Go.Proofs.YtojfblkmhdgjeaaDoor
