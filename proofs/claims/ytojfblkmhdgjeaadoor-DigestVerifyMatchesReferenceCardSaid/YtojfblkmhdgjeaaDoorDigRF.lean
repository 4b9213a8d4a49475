/- The reference's Verify. -/
import Derived.Test.YtojfblkmhdgjeaaDoorDigRD
import Derived.Test.YtojfblkmhdgjeaaDoorDigY2
namespace Go.Proofs.YtojfblkmhdgjeaaDoor
open Go.RowKit Go.Shelf

/-! ### all strings of a list are digests -/
theorem allD_take {ps : List ByteArray} {k : Nat} {x : ByteArray} (hx : ps[k]? = some x) (h : allD (ps.take k) = true) (h32 : x.size = 32) : allD (ps.take (k + 1)) = true := by
  rw [List.take_add_one, hx]
  exact allD_more h h32
theorem allD_not {ps : List ByteArray} {k : Nat} {x : ByteArray} (hx : ps[k]? = some x) (h32 : x.size ≠ 32) : allD ps = false := by
  cases h : allD ps with
  | false => rfl
  | true =>
    have := List.all_eq_true.1 h x (List.mem_of_getElem? hx)
    exact absurd (by simpa using this) h32
set_option maxRecDepth 100000 in
set_option maxHeartbeats 1000000 in
theorem refDigests_any (ps : List ByteArray) (o : Option Addr) (c : Nat) (w : World) (hS : StrSl w o ps) (hl : ps.length ≤ 2 ^ 30) :
    Calls Tryd.prog 55 #[.slice o ps.length c] w fun e w' => e = .returned (.bool (allD ps)) ∧ Below w.heap.size w w' := by
  have HX := Lib.hid hS
  have BB := Lib.hid (Below.refl w.heap.size w)
  obtain ⟨N, hN⟩ : ∃ N, ps.length = N := ⟨_, rfl⟩
  rw [hN] at hl ⊢
  have HN := Lib.hid hN
  clear hS hN
  go_enter Tryd.func55, Tryd.ntmps55
  go_wp2
  go_loopw [3] (fun i wr => ∃ k : Nat, i = .int .i64 k ∧ k ≤ N ∧ allD (ps.take k) = true ∧ Below w.heap.size w wr) (fun i _ => N - (intOf i).toNat)
  case atStart => exact ⟨0, rfl, Nat.zero_le _, rfl, Below.refl _ _⟩
  case round =>
    obtain ⟨k, rfl, hk, hcol, hB⟩ := hrel
    replace HX := Lib.hid (HX.out.next hB)
    have BB2 := BB
    replace BB := Lib.hid hB
    have HCOL := Lib.hid hcol
    clear hcol hB
    by_cases hlt : k < N
    · obtain ⟨x, hx⟩ : ∃ x, ps[k]? = some x := ⟨_, List.getElem?_eq_getElem (by rw [HN.out]; exact hlt)⟩
      have HXX := Lib.hid hx
      rcases HX.out with h | ⟨b, off, rfl, hb, hcb⟩
      · rw [h] at hx; simp at hx
      have c1 := hcb k x hx
      clear hx hcb
      by_cases h32 : x.size = 32
      · have HT := Lib.hid (allD_take HXX.out HCOL.out h32)
        have d1 : decide ((x.size : Int) = 32) = true := by simp; omega
        have d2 : ((x.size : Int) == 32) = true := by simp; omega
        have d3 : ((x.size : Int) != 32) = false := by simp; omega
        have d4 : (x.size : Int) = 32 := by omega
        clear h32
        go_wp2_with fail
        refine ⟨⟨k + 1, by go_num, by omega, HT.out, BB.out⟩, by simp [intOf]; omega⟩
      · have HF := Lib.hid (allD_not HXX.out h32)
        have d1 : decide ((x.size : Int) = 32) = false := by simp; omega
        have d2 : ((x.size : Int) == 32) = false := by simp; omega
        have d3 : ((x.size : Int) != 32) = true := by simp; omega
        have d4 : ¬ (x.size : Int) = 32 := by omega
        clear h32
        go_wp2_with fail
        go_ret
        exact ⟨retv (congrArg Value.bool HF.out.symm), BB.out⟩
    · obtain rfl : k = N := by omega
      rw [List.take_of_length_le (by rw [HN.out]; exact Nat.le_refl _)] at HCOL
      clear hlt
      go_wp2_with fail
      go_ret
      exact ⟨retv (congrArg Value.bool HCOL.out.symm), BB.out⟩

/-! ### the value of a proof -/
def valO (s : ByteArray) (n i : Nat) (ps : List ByteArray) : Option ByteArray := if (sidesN n i).length = ps.length then some (climb (leafS s) (sidesN n i) ps) else none
theorem valO_one (s : ByteArray) (i : Nat) (ps : List ByteArray) : valO s 1 i ps = if ps.length = 0 then some (leafS s) else none := by
  unfold valO
  rw [sidesN_one (Nat.le_refl _)]
  by_cases h : ps.length = 0
  · rw [if_pos h, if_pos (by simpa using h.symm)]; rfl
  · rw [if_neg h, if_neg (by simpa using fun h' => h h'.symm)]
theorem valO_nil (s : ByteArray) {n i : Nat} (h : 2 ≤ n) : valO s n i [] = none := by
  unfold valO
  refine if_neg ?_
  by_cases hi : i < splitN n
  · rw [sidesN_left h hi]; simp
  · rw [sidesN_right h hi]; simp
theorem valO_left (s : ByteArray) {n i : Nat} (h : 2 ≤ n) (hi : i < splitN n) (qs : List ByteArray) (x : ByteArray) : valO s n i (qs ++ [x]) = (valO s (splitN n) i qs).map fun v => nodeS v x := by
  unfold valO
  rw [sidesN_left h hi]
  by_cases hl : (sidesN (splitN n) i).length = qs.length
  · rw [if_pos hl, if_pos (by simp [hl]), climb_more _ _ _ _ _ hl]; rfl
  · rw [if_neg hl, if_neg (by simpa using hl)]; rfl
theorem valO_right (s : ByteArray) {n i : Nat} (h : 2 ≤ n) (hi : ¬ i < splitN n) (qs : List ByteArray) (x : ByteArray) : valO s n i (qs ++ [x]) = (valO s (n - splitN n) (i - splitN n) qs).map fun v => nodeS x v := by
  unfold valO
  rw [sidesN_right h hi]
  by_cases hl : (sidesN (n - splitN n) (i - splitN n)).length = qs.length
  · rw [if_pos hl, if_pos (by simp [hl]), climb_more _ _ _ _ _ hl]; rfl
  · rw [if_neg hl, if_neg (by simpa using hl)]; rfl
/-- what value returns -/
def ValOut (w : World) (V : Option ByteArray) (e : Ending) (w' : World) : Prop := ∃ v, e = .returned (.tuple #[.string v, .bool V.isSome]) ∧ (∀ u, V = some u → v = u) ∧ v.size ≤ 32 ∧ Below w.heap.size w w'
theorem map_some {V : Option ByteArray} {v : ByteArray} {f : ByteArray → ByteArray} (h : ∀ u, V = some u → v = u) : ∀ u, V.map f = some u → f v = u := by
  cases V with
  | none => intro u hu; cases hu
  | some x => intro u hu; rw [h x rfl]; exact Option.some.inj hu
set_option maxRecDepth 100000 in
set_option maxHeartbeats 2000000 in
theorem refValue_any (s : ByteArray) (hs : s.size ≤ 2 ^ 38) : ∀ (n : Nat) (ps : List ByteArray) (PL i : Nat) (o : Option Addr) (c : Nat) (w : World), ps.length = PL → PL ≤ 2 ^ 30 → 1 ≤ n → n ≤ 9223372036854775807 → i < n → PL ≤ c → c ≤ 9223372036854775807 → StrSl w o ps → (∀ x ∈ ps, x.size = 32) →
    Calls Tryd.prog 56 #[.int .i64 n, .int .i64 i, .string s, .slice o PL c] w (ValOut w (valO s n i ps)) := by
  intro n
  induction n using Nat.strongRecOn with
  | ind n ih =>
    intro ps PL i o c w hps h30 h1 hn hi hpc hc hS hx
    by_cases hn1 : n = 1
    · subst hn1
      rw [valO_one, hps]
      have CL := Lib.hid (refLeaf_any s w hs)
      have hls := leafS_size s
      generalize leafS s = L at *
      clear ih hS hx
      by_cases h0 : PL = 0
      · subst h0
        rw [if_pos rfl]
        go_enter Tryd.func56, Tryd.ntmps56
        go_wp2_with fail
        with_reducible refine Calls.mono CL.out ?_
        rintro e w2 ⟨rfl, hb⟩
        have HB := Lib.hid hb
        clear hb
        go_wp2_with fail
        go_ret2
        exact ⟨L, rfl, fun u hu => Option.some.inj hu, by omega, HB.out⟩
      · rw [if_neg h0]
        have d1 : decide ((PL : Int) - 1 < 0) = false := by simp; omega
        have wI : IntKind.i64.wrap ((PL : Int) - 1) = (PL : Int) - 1 := by simp [IntKind.wrap, IntKind.bits, IntKind.signed]; omega
        go_enter Tryd.func56, Tryd.ntmps56
        go_wp2_with fail
        with_reducible refine Calls.mono CL.out ?_
        rintro e w2 ⟨rfl, hb⟩
        have HB := Lib.hid hb
        clear hb
        go_wp2_with fail
        go_ret2
        exact ⟨L, rfl, (fun u hu => by cases hu), by omega, HB.out⟩
    · have h2 : 2 ≤ n := by omega
      have dn : decide ((n : Int) = 1) = false := by simp; omega
      have dm : ¬ (n : Int) = 1 := by omega
      rcases List.eq_nil_or_concat ps with rfl | ⟨qs, x, rfl⟩
      · obtain rfl : PL = 0 := hps.symm
        rw [valO_nil s h2]
        have HB := Lib.hid (Below.refl w.heap.size w)
        clear ih hS hx
        go_enter Tryd.func56, Tryd.ntmps56
        go_wp2_with fail
        go_ret2
        exact ⟨⟨#[]⟩, rfl, (fun u hu => by cases hu), (by decide), HB.out⟩
      · rw [List.concat_eq_append] at *
        obtain ⟨PQ, rfl⟩ : ∃ k, PL = k + 1 := ⟨PL - 1, by rw [← hps]; simp⟩
        have hq : qs.length = PQ := by simpa using hps
        have hxs : x.size = 32 := hx x (by simp)
        rcases hS with h | ⟨b, off, rfl, hl, hcell⟩
        · simp at h
        have c1 : w.cell? ⟨b, off + PQ, none⟩ = some (.string x) := hcell PQ x (by rw [← hq]; simp)
        have HQ := Lib.hid (show StrSl w (some ⟨b, off, none⟩) qs from .inr ⟨b, off, rfl, hl, fun j y hy => hcell j y (by
          rw [List.getElem?_append_left (List.getElem?_eq_some_iff.1 hy).1]; exact hy)⟩)
        have CP := Lib.hid (fun w => refLeft_any n w h2 hn)
        have k1 := splitN_lt h2
        have k0 := splitN_pos n
        have hqx : ∀ y ∈ qs, y.size = 32 := fun y hy => hx y (by simp [hy])
        have q0 : (PQ : Int) < ((PQ + 1 : Nat) : Int) := by omega
        by_cases hik : i < splitN n
        · rw [valO_left s h2 hik]
          have C1 := Lib.hid (ih (splitN n) k1 qs PQ i (some ⟨b, off, none⟩) c w hq (by omega) k0 (by omega) hik (by omega) hc HQ.out hqx)
          have d1 : decide ((i : Int) < (splitN n : Nat)) = true := by simp; omega
          unfold ValOut at C1
          generalize valO s (splitN n) i qs = V at *
          generalize splitN n = K at *
          clear ih hx hqx hcell HQ hps
          go_enter Tryd.func56, Tryd.ntmps56
          go_wp2_with fail
          with_reducible refine Calls.mono (CP.out _) ?_
          rintro e w2 ⟨rfl, rfl⟩
          go_wp2_with fail
          with_reducible refine Calls.mono C1.out ?_
          rintro e w3 ⟨v, rfl, hv, hvs, hb⟩
          have HV := Lib.hid (map_some (f := fun v => nodeS v x) hv)
          have CN := Lib.hid (refNode_any v x w3 (by omega) (by omega))
          have c2 : w3.cell? ⟨b, off + PQ, none⟩ = some (.string x) := (hb.cell (p := ⟨b, off + PQ, none⟩) hl).trans c1
          have HB := Lib.hid hb
          have HNS := Lib.hid (nodeS_size v x)
          clear hv hb c1
          generalize nodeS v x = R at *
          go_wp2_with fail
          with_reducible refine Calls.mono CN.out ?_
          rintro e w4 ⟨rfl, hb⟩
          replace HB := Lib.hid (Below.andThen HB.out hb)
          clear hb
          go_wp2_with fail
          go_ret2
          exact ⟨R, (by rw [Option.isSome_map]; rfl), HV.out, by rw [HNS.out]; exact Nat.le_refl _, HB.out⟩
        · rw [valO_right s h2 hik]
          have C1 := Lib.hid (ih (n - splitN n) (by omega) qs PQ (i - splitN n) (some ⟨b, off, none⟩) c w hq (by omega) (by omega) (by omega) (by omega) (by omega) hc HQ.out hqx)
          rw [show ((n - splitN n : Nat) : Int) = (n : Int) - (splitN n : Nat) by omega, show ((i - splitN n : Nat) : Int) = (i : Int) - (splitN n : Nat) by omega] at C1
          have d1 : decide ((i : Int) < (splitN n : Nat)) = false := by simp; omega
          unfold ValOut at C1
          generalize valO s (n - splitN n) (i - splitN n) qs = V at *
          generalize splitN n = K at *
          have w1 : IntKind.i64.wrap ((n : Int) - (K : Int)) = (n : Int) - (K : Int) := by simp [IntKind.wrap, IntKind.bits, IntKind.signed]; omega
          have w2 : IntKind.i64.wrap ((i : Int) - (K : Int)) = (i : Int) - (K : Int) := by simp [IntKind.wrap, IntKind.bits, IntKind.signed]; omega
          clear ih hx hqx hcell HQ hps
          go_enter Tryd.func56, Tryd.ntmps56
          go_wp2_with fail
          with_reducible refine Calls.mono (CP.out _) ?_
          rintro e w2 ⟨rfl, rfl⟩
          go_wp2_with fail
          with_reducible refine Calls.mono C1.out ?_
          rintro e w3 ⟨v, rfl, hv, hvs, hb⟩
          have HV := Lib.hid (map_some (f := fun v => nodeS x v) hv)
          have CN := Lib.hid (refNode_any x v w3 (by omega) (by omega))
          have c2 : w3.cell? ⟨b, off + PQ, none⟩ = some (.string x) := (hb.cell (p := ⟨b, off + PQ, none⟩) hl).trans c1
          have HB := Lib.hid hb
          have HNS := Lib.hid (nodeS_size x v)
          clear hv hb c1
          generalize nodeS x v = R at *
          go_wp2_with fail
          with_reducible refine Calls.mono CN.out ?_
          rintro e w4 ⟨rfl, hb⟩
          replace HB := Lib.hid (Below.andThen HB.out hb)
          clear hb
          go_wp2_with fail
          go_ret2
          exact ⟨R, (by rw [Option.isSome_map]; rfl), HV.out, by rw [HNS.out]; exact Nat.le_refl _, HB.out⟩

theorem verifyS_val (root s : ByteArray) (n i : Nat) (ps : List ByteArray) (hi : i < n) (ha : allD ps = true) : verifyS root n i s ps = match valO s n i ps with | none => false | some v => decide (v = root) := by
  unfold verifyS valO
  rw [decide_eq_true (show (0 : Int) ≤ (i : Int) by omega), decide_eq_true (show (i : Int) < (n : Int) by omega), ha, Int.toNat_natCast, Int.toNat_natCast]
  by_cases h : (sidesN n i).length = ps.length
  · rw [if_pos h, decide_eq_true h]; simp
  · rw [if_neg h, decide_eq_false h]; simp
set_option maxRecDepth 100000 in
set_option maxHeartbeats 2000000 in
theorem refVerify_any (root s : ByteArray) (n i : Int) (o : Option Addr) (c : Nat) (ps : List ByteArray) (w : World) (hn : n ≤ 9223372036854775807) (hS : StrSl w o ps) (hl : ps.length ≤ 2 ^ 30) (hs : s.size ≤ 2 ^ 38) (hpc : ps.length ≤ c) (hc : c ≤ 9223372036854775807) :
    Calls Tryd.prog 30 #[.string root, .int .i64 n, .int .i64 i, .string s, .slice o ps.length c] w fun e w' => e = .returned (.bool (verifyS root n i s ps)) ∧ Below w.heap.size w w' := by
  have CD := Lib.hid (refDigests_any ps o c w hS hl)
  have HX := Lib.hid hS
  obtain ⟨PL, hPL⟩ : ∃ N, ps.length = N := ⟨_, rfl⟩
  rw [hPL] at CD ⊢
  by_cases h1 : i < 0
  · have HE := Lib.hid (show verifyS root n i s ps = false by
      unfold verifyS
      rw [decide_eq_false (show ¬ 0 ≤ i by omega)]; simp)
    rw [HE.out]
    have d1 : decide (i < 0) = true := by simpa using h1
    clear hS hl hPL
    go_enter Tryd.func30, Tryd.ntmps30
    go_wp2_with fail
    with_reducible refine Calls.mono CD.out ?_
    rintro e w2 ⟨rfl, hb⟩
    have HB := Lib.hid hb
    clear hb
    go_wp2_with fail
    go_ret
    exact ⟨rfl, HB.out⟩
  · have d1 : decide (i < 0) = false := by simpa using h1
    by_cases h2 : n ≤ i
    · have HE := Lib.hid (show verifyS root n i s ps = false by
        unfold verifyS
        rw [decide_eq_false (show ¬ i < n by omega)]; simp)
      rw [HE.out]
      have d2 : decide (n ≤ i) = true := by simpa using h2
      clear hS hl hPL
      go_enter Tryd.func30, Tryd.ntmps30
      go_wp2_with fail
      with_reducible refine Calls.mono CD.out ?_
      rintro e w2 ⟨rfl, hb⟩
      have HB := Lib.hid hb
      clear hb
      go_wp2_with fail
      go_ret
      exact ⟨rfl, HB.out⟩
    · have d2 : decide (n ≤ i) = false := by simpa using h2
      obtain ⟨k, rfl⟩ := Int.eq_ofNat_of_zero_le (show 0 ≤ i by omega)
      obtain ⟨m, rfl⟩ := Int.eq_ofNat_of_zero_le (show 0 ≤ n by omega)
      cases ha : allD ps with
      | false =>
        have HE := Lib.hid (show verifyS root m k s ps = false by
          unfold verifyS
          rw [ha]; simp)
        rw [ha] at CD
        rw [HE.out]
        clear hS hl hPL ha
        go_enter Tryd.func30, Tryd.ntmps30
        go_wp2_with fail
        with_reducible refine Calls.mono CD.out ?_
        rintro e w2 ⟨rfl, hb⟩
        have HB := Lib.hid hb
        clear hb
        go_wp2_with fail
        go_ret
        exact ⟨rfl, HB.out⟩
      | true =>
        rw [verifyS_val root s m k ps (by omega) ha]
        rw [ha] at CD
        have CV := Lib.hid (fun W (h : StrSl W o ps) => refValue_any s hs m ps PL k o c W hPL (by omega) (by omega) (by omega) (by omega) (by omega) hc h (fun x hx => by have := List.all_eq_true.1 ha x hx; simpa using this))
        unfold ValOut at CV
        clear hS hl hPL ha
        generalize valO s m k ps = V at *
        go_enter Tryd.func30, Tryd.ntmps30
        go_wp2_with fail
        with_reducible refine Calls.mono CD.out ?_
        rintro e w2 ⟨rfl, hb⟩
        have HB := Lib.hid hb
        replace HX := Lib.hid (HX.out.next hb)
        clear hb
        go_wp2_with fail
        with_reducible refine Calls.mono (CV.out _ HX.out) ?_
        rintro e w3 ⟨v, rfl, hv, _, hb⟩
        replace HB := Lib.hid (Below.andThen HB.out hb)
        clear hb
        cases V with
        | none =>
          rw [Option.isSome_none]
          clear hv
          go_wp2_with fail
          go_ret
          exact ⟨rfl, HB.out⟩
        | some u =>
          obtain rfl := hv u rfl
          rw [Option.isSome_some]
          clear hv
          by_cases hr : v = root
          · subst hr
            go_wp2_with fail
            go_ret
            exact ⟨retv (congrArg Value.bool (by simp)), HB.out⟩
          · have e1 : (v.toList == root.toList) = false := by rw [bytes_beq]; simpa using hr
            go_wp2_with fail
            go_ret
            exact ⟨rfl, HB.out⟩
end Go.Proofs.YtojfblkmhdgjeaaDoor
