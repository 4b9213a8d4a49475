/- The reference: Print, Parse. -/
import Derived.Test.YtlehjmanlccncaaGreatDoorRatGH
import Derived.Lib.IndexBytes
import Derived.Lib.IndexLaws
set_option linter.unusedVariables false
set_option linter.unusedSimpArgs false
namespace Go.Proofs.YtlehjmanlccncaaGreatDoor
open Go.RowKit

set_option maxRecDepth 100000 in
set_option maxHeartbeats 4000000 in
theorem rPrint_r (r : ByteArray × ByteArray) (w : World) (h1 : r.1.size ≤ maxLen) (h2 : r.2.size ≤ maxLen) :
    Calls Tryz.prog 35 #[ratV r] w fun e w' => e = .returned (.string (Ra.prS (Ra.val r))) ∧ Below w.heap.size w w' := by
  have VA := Lib.hid (fun W => rValid_r r W h1 h2)
  have BB := Lib.hid (Below.refl w.heap.size w)
  obtain ⟨a1, a2⟩ := r
  clear h1 h2
  cases hv : Ra.val (a1, a2) with
  | none =>
    rw [hv] at VA
    clear hv
    go_enter Tryz.func35, Tryz.ntmps35
    go_upto_region 1 with (fail)
    refine wp_named fun w1 hq => ?_
    obtain ⟨bA, ebA⟩ : ∃ b, b = w.heap.size := ⟨_, rfl⟩
    have A := Lib.hid (show Row w1 bA 23 [.string a1, .string a2] from by rw [hq, ebA]; exact Row.new _ _ _)
    have hb : Below w.heap.size w w1 := by rw [hq]; exact (Below.refl _ _).alloc (Nat.le_refl _) _
    replace BB := Lib.hid (Below.andThen BB.out hb)
    rw [← ebA]
    clear hq hb ebA
    obtain ⟨cA0, cA1⟩ := A.out.two
    have lA := A.out.lt
    go_wp2_with fail
    clear cA0 cA1 lA
    with_reducible refine Calls.mono (VA.out _) ?_
    rintro e w2 ⟨rfl, hb⟩
    replace A := Lib.hid (A.out.next hb)
    replace BB := Lib.hid (Below.andThen BB.out hb)
    clear hb
    go_wp2_with fail
    go_ret
    exact ⟨rfl, BB.out⟩
  | some p =>
    obtain ⟨hx, -, n1, d1⟩ := Ra.val_some hv
    clear hx
    dsimp only at n1 d1
    have s1 := num_size n1
    have s2 := num_size d1
    have hone := lit_is_one d1
    have e1 := (In.num_some n1).1
    have e2 := (In.num_some d1).1
    have HP := Lib.hid (show Ra.prS (some p) = if p.2 = 1 then a1 else a1 ++ ⟨#[47]⟩ ++ a2 from by unfold Ra.prS; dsimp only; rw [e1, e2])
    rw [hv] at VA
    have g1 : ¬ (9223372036854775807 < a1.size + 1) := by omega
    have g2 : ¬ (9223372036854775807 < a1.size + 1 + a2.size) := by omega
    clear hv n1 d1 e1 e2
    by_cases h1 : p.2 = 1
    · rw [decide_eq_true h1] at hone
      rw [if_pos h1] at HP
      rw [HP.out]
      clear h1 HP
      go_enter Tryz.func35, Tryz.ntmps35
      go_upto_region 1 with (fail)
      refine wp_named fun w1 hq => ?_
      obtain ⟨bA, ebA⟩ : ∃ b, b = w.heap.size := ⟨_, rfl⟩
      have A := Lib.hid (show Row w1 bA 23 [.string a1, .string a2] from by rw [hq, ebA]; exact Row.new _ _ _)
      have hb : Below w.heap.size w w1 := by rw [hq]; exact (Below.refl _ _).alloc (Nat.le_refl _) _
      replace BB := Lib.hid (Below.andThen BB.out hb)
      rw [← ebA]
      clear hq hb ebA
      obtain ⟨cA0, cA1⟩ := A.out.two
      have lA := A.out.lt
      go_wp2_with fail
      clear cA0 cA1 lA
      with_reducible refine Calls.mono (VA.out _) ?_
      rintro e w2 ⟨rfl, hb⟩
      replace A := Lib.hid (A.out.next hb)
      replace BB := Lib.hid (Below.andThen BB.out hb)
      clear hb
      obtain ⟨cA0, cA1⟩ := A.out.two
      have lA := A.out.lt
      go_wp2_with fail
      go_ret
      exact ⟨rfl, BB.out⟩
    · rw [decide_eq_false h1] at hone
      rw [if_neg h1] at HP
      rw [HP.out]
      clear h1 HP
      go_enter Tryz.func35, Tryz.ntmps35
      go_upto_region 1 with (fail)
      refine wp_named fun w1 hq => ?_
      obtain ⟨bA, ebA⟩ : ∃ b, b = w.heap.size := ⟨_, rfl⟩
      have A := Lib.hid (show Row w1 bA 23 [.string a1, .string a2] from by rw [hq, ebA]; exact Row.new _ _ _)
      have hb : Below w.heap.size w w1 := by rw [hq]; exact (Below.refl _ _).alloc (Nat.le_refl _) _
      replace BB := Lib.hid (Below.andThen BB.out hb)
      rw [← ebA]
      clear hq hb ebA
      obtain ⟨cA0, cA1⟩ := A.out.two
      have lA := A.out.lt
      go_wp2_with fail
      clear cA0 cA1 lA
      with_reducible refine Calls.mono (VA.out _) ?_
      rintro e w2 ⟨rfl, hb⟩
      replace A := Lib.hid (A.out.next hb)
      replace BB := Lib.hid (Below.andThen BB.out hb)
      clear hb
      obtain ⟨cA0, cA1⟩ := A.out.two
      have lA := A.out.lt
      go_wp2_with fail
      go_ret
      exact ⟨rfl, BB.out⟩
namespace Ra
theorem prS_ne {p : Int × Int} (h : Ok p) : (prS (some p)).size ≠ 0 := by
  have h0 : (In.txt p.1).size ≠ 0 := by
    intro h0
    have e : In.txt p.1 = ⟨#[]⟩ := ByteArray.size_eq_zero_iff.1 h0
    have k := In.num_fit h.num
    rw [e, show In.num ⟨#[]⟩ = none by kernel_rfl] at k
    cases k
  unfold prS
  dsimp only
  split
  · exact h0
  · rw [ByteArray.size_append, ByteArray.size_append]
    omega
theorem parts_miss {s : ByteArray} (h : ∀ k : Nat, s.data.toList[k]? ≠ some 47) : partsS s = (s, ⟨#[49]⟩) := by
  have hm : Lib.indexB s ⟨#[47]⟩ = -1 := by
    rcases Lib.indexB_cases s ⟨#[47]⟩ with k | ⟨i, k, _⟩
    · exact k
    · have k2 : Lib.index s.data.toList [47] = i := k
      rw [Lib.index_one] at k2
      exact absurd (Lib.indexByte_some k2).1 (h i)
  obtain ⟨e1, e2, e3⟩ := Lib.cutB_miss s ⟨#[47]⟩ hm
  unfold partsS partN partF
  rw [show (Lib.cut s.data.toList [47]).2.2 = false from e3, if_neg (by decide)]
  exact congrArg (fun x => (x, _)) e1
theorem parts_hit {s : ByteArray} {i : Nat} (h : s.data.toList[i]? = some 47) (hno : ∀ k : Nat, k < i → s.data.toList[k]? ≠ some 47) : partsS s = (s.extract 0 i, s.extract (i + 1) s.size) := by
  have hm : Lib.indexB s ⟨#[47]⟩ = i := by
    rcases Lib.indexB_cases s ⟨#[47]⟩ with k | ⟨j, k, _⟩
    · have k2 : Lib.index s.data.toList [47] = -1 := k
      rw [Lib.index_one] at k2
      exact absurd h (Lib.indexByte_none k2 i)
    · have k2 : Lib.index s.data.toList [47] = j := k
      rw [Lib.index_one] at k2
      obtain ⟨k3, k4⟩ := Lib.indexByte_some k2
      have : j = i := by
        rcases Nat.lt_trichotomy j i with g | g | g
        · exact absurd k3 (hno j g)
        · exact g
        · exact absurd h (k4 i g)
      rw [k, this]
  obtain ⟨e1, e2, e3⟩ := Lib.cutB_hit s ⟨#[47]⟩ i hm
  unfold partsS partN partF partD
  rw [show (Lib.cut s.data.toList [47]).2.2 = true from e3, if_pos rfl]
  exact Prod.ext e1 e2
theorem parse_key (s : ByteArray) : (val (partsS s) = none ∧ parseS s = none) ∨ (∃ p, val (partsS s) = some p ∧ ((prS (some p) = s ∧ resV (parseS s) = .tuple #[ratV (partsS s), .int .i64 0]) ∨ (prS (some p) ≠ s ∧ parseS s = none))) := by
  cases hv : val (partsS s) with
  | none =>
    refine .inl ⟨rfl, ?_⟩
    by_cases h : s.size = 0
    · exact parse_miss (.inl h)
    · refine parse_miss (.inr ?_)
      rw [hv]
      intro k
      rw [← k] at h
      exact h rfl
  | some p =>
    refine .inr ⟨p, rfl, ?_⟩
    by_cases h : prS (some p) = s
    · refine .inl ⟨h, parse_hit ?_ (by rw [hv]; exact h)⟩
      rw [← h]
      exact prS_ne (val_some hv).2.1
    · exact .inr ⟨h, parse_miss (.inr (by rw [hv]; exact h))⟩
end Ra
set_option maxRecDepth 100000 in
set_option maxHeartbeats 8000000 in
theorem rParse_r (s : ByteArray) (w : World) (hs : s.size ≤ 1000) :
    Calls Tryz.prog 36 #[.string s] w fun e w' => e = .returned (resV (Ra.parseS s)) ∧ Below w.heap.size w w' := by
  have key := Ra.parse_key s
  have hl : s.data.toList.length = s.size := (Lib.size_eq s).symm
  -- the end, behind the loop
  have tail : ∀ (N D : ByteArray), Ra.partsS s = (N, D) → N.size ≤ 1000 → D.size ≤ 1000 →
      (Ra.val (N, D) = none ∧ Ra.parseS s = none ∧ (∀ W, Calls Tryz.prog 30 #[ratV (N, D)] W fun e w' => e = .returned (.bool false) ∧ Below W.heap.size W w')) ∨
      (∃ P b, (P.toList == s.toList) = b ∧ resV (Ra.parseS s) = (if b = true then .tuple #[ratV (N, D), .int .i64 0] else .tuple #[ratV (⟨#[]⟩, ⟨#[]⟩), .int .i64 40]) ∧
        (∀ W, Calls Tryz.prog 30 #[ratV (N, D)] W fun e w' => e = .returned (.bool true) ∧ Below W.heap.size W w') ∧
        (∀ W, Calls Tryz.prog 35 #[ratV (N, D)] W fun e w' => e = .returned (.string P) ∧ Below W.heap.size W w')) := by
    intro N D hp hN hD
    have V := fun W => rValid_r (N, D) W (Nat.le_trans hN (by decide)) (Nat.le_trans hD (by decide))
    have P := fun W => rPrint_r (N, D) W (Nat.le_trans hN (by decide)) (Nat.le_trans hD (by decide))
    rw [hp] at key
    rcases key with ⟨k1, k2⟩ | ⟨p, k1, k2⟩
    · rw [k1] at V
      exact .inl ⟨k1, k2, V⟩
    · rw [k1] at V P
      refine .inr ⟨_, _, bytes_eq _ _, ?_, V, P⟩
      rcases k2 with ⟨k2, k3⟩ | ⟨k2, k3⟩
      · rw [decide_eq_true k2, if_pos rfl]
        exact k3
      · rw [decide_eq_false k2, if_neg (by decide), k3]
        rfl
  have TAIL := Lib.hid tail
  have PM := Lib.hid (Ra.parts_miss (s := s))
  have PH := Lib.hid (fun i => Ra.parts_hit (s := s) (i := i))
  have HLEN := Lib.hid hl
  clear key tail hl
  generalize hR : resV (Ra.parseS s) = R at *
  have hnone : Ra.parseS s = none → R = .tuple #[ratV (⟨#[]⟩, ⟨#[]⟩), .int .i64 40] := fun h => by rw [← hR, h]; rfl
  have HNONE := Lib.hid hnone
  clear hR hnone
  go_enter Tryz.func36, Tryz.ntmps36
  go_upto_region 2 with (fail)
  refine wp_named fun w1 hq => ?_
  obtain ⟨b0, eb0⟩ : ∃ b, b = w.heap.size := ⟨_, rfl⟩
  obtain ⟨bA, ebA⟩ : ∃ b, b = w.heap.size + 1 := ⟨_, rfl⟩
  have R1 : Row w1 b0 23 [.string ⟨#[]⟩, .string ⟨#[]⟩] ∧ Row w1 bA 23 [.string s, .string ⟨#[49]⟩] ∧ Below w.heap.size w w1 := by
    rw [hq, eb0, ebA]
    refine ⟨(Row.new w _ [.string ⟨#[]⟩, .string ⟨#[]⟩]).alloc _, ?_, ((Below.refl _ _).alloc (Nat.le_refl _) _).alloc (by simp) _⟩
    have h := Row.new (w.alloc (.cells #[.string ⟨#[]⟩, .string ⟨#[]⟩] 23)) 23 [.string s, .string ⟨#[49]⟩]
    rw [World.size_alloc] at h
    exact h
  rw [← ebA, ← eb0]
  have HL := Lib.hid (show w.heap.size ≤ b0 ∧ b0 ≠ bA ∧ w.heap.size ≤ bA from by omega)
  have Z := Lib.hid R1.1
  have A := Lib.hid R1.2.1
  have BB := Lib.hid R1.2.2
  clear hq R1 eb0 ebA
  go_wp2_with fail
  go_loopw [5] (fun iv wr => ∃ i : Nat, iv = .int .i64 i ∧ i ≤ s.size ∧ (∀ k : Nat, k < i → s.data.toList[k]? ≠ some 47) ∧ w1 = wr) (fun iv _ => s.size - (intOf iv).toNat)
  case atStart => exact ⟨0, rfl, Nat.zero_le _, fun k hk => by omega, by first | trivial | rfl⟩
  case round =>
    obtain ⟨i, rfl, hi, hno, rfl⟩ := hrel
    have HNO := Lib.hid hno
    clear hno
    by_cases hlt : i < s.size
    · have i1 := fun (w : World) => run_index_at (P := Tryz.prog) w 9 s .i64 i rfl hlt
      have hat := ba_at s i hlt
      by_cases h47 : s[i]'hlt = 47
      · rw [h47] at hat
        have d2 : (((s[i]'hlt).toNat : Int) == 47) = true := by rw [h47]; rfl
        have hp := PH.out i hat HNO.out
        have z1 : (s.extract 0 i).size ≤ 1000 := by rw [ByteArray.size_extract]; omega
        have z2 : (s.extract (i + 1) s.size).size ≤ 1000 := by rw [ByteArray.size_extract]; omega
        have TL := Lib.hid (TAIL.out _ _ hp z1 z2)
        clear TAIL PM PH hat hp z1 z2
        go_upto_region 6 with (fail)
        refine wp_region_kin_tail 8 (by kernel_rfl) (by kernel_rfl) w1.heap.size 0 (by simp) (fun hk => ?_)
        simp only [List.take_succ_cons, List.take_zero, List.drop_succ_cons, List.drop_zero]
        repeat (go_big_quiet_step (fail))
        refine wpQuiet_nil ?_
        clear hk
        intro w2 hb
        replace A := Lib.hid (A.out.next hb)
        replace Z := Lib.hid (Z.out.next hb)
        replace BB := Lib.hid (Below.andThen BB.out hb)
        clear hb
        obtain ⟨cA0, cA1⟩ := A.out.two
        have lA := A.out.lt
        have f0 := A.out.frozen 0
        have f1 := A.out.frozen 1
        go_upto_region 7 with (fail)
        clear cA0 cA1 lA
        clear f0 f1
        refine wp_named fun w3 hq => ?_
        replace A := Lib.hid (show Row w3 bA 23 [.string (s.extract 0 i), .string (s.extract (i + 1) s.size)] from by rw [hq]; exact (A.out.set 0 (.string (s.extract 0 i))).set 1 (.string (s.extract (i + 1) s.size)))
        replace Z := Lib.hid (show Row w3 b0 _ _ from by rw [hq]; exact (Z.out.other HL.out.2.1 _ _).other HL.out.2.1 _ _)
        replace BB := Lib.hid (show Below w.heap.size w w3 from by rw [hq]; exact (BB.out.setCell (p := ⟨bA, 0, none⟩) HL.out.2.2 _).setCell (p := ⟨bA, 1, none⟩) HL.out.2.2 _)
        clear hq
        generalize s.extract 0 i = N at *
        generalize s.extract (i + 1) s.size = D at *
        rcases TL.out with ⟨k1, k2, V⟩ | ⟨P, b, k1, k2, V, PP⟩
        · have V' := Lib.hid V
          have hr := HNONE.out k2
          subst hr
          clear V k1 k2 TL
          obtain ⟨cA0, cA1⟩ := A.out.two
          have lA := A.out.lt
          go_wp2_with fail
          clear cA0 cA1 lA
          with_reducible refine Calls.mono (V'.out _) ?_
          rintro e w4 ⟨rfl, hb⟩
          replace Z := Lib.hid (Z.out.next hb)
          replace BB := Lib.hid (Below.andThen BB.out hb)
          clear hb
          obtain ⟨cZ0, cZ1⟩ := Z.out.two
          have lZ := Z.out.lt
          have f0 := Z.out.frozen 0
          have f1 := Z.out.frozen 1
          go_wp2_with fail
          refine bodyPost_ret (v := .tuple #[ratV (⟨#[]⟩, ⟨#[]⟩), .int .i64 40]) (by first | (simp [results, Tryz.results36, go_sem]; done) | simp [results, Tryz.results36, go_sem, *]) rfl ⟨rfl, (BB.out.setCell (p := ⟨b0, 0, none⟩) HL.out.1 _).setCell (p := ⟨b0, 1, none⟩) HL.out.1 _⟩
        · have V' := Lib.hid V
          have P' := Lib.hid PP
          have K2 := Lib.hid k2
          clear V PP TL k2
          cases b
          · rw [if_neg (by decide)] at K2
            have hr := K2.out
            subst hr
            clear K2
            obtain ⟨cA0, cA1⟩ := A.out.two
            have lA := A.out.lt
            go_wp2_with fail
            clear cA0 cA1 lA
            with_reducible refine Calls.mono (V'.out _) ?_
            rintro e w4 ⟨rfl, hb⟩
            replace A := Lib.hid (A.out.next hb)
            replace Z := Lib.hid (Z.out.next hb)
            replace BB := Lib.hid (Below.andThen BB.out hb)
            clear hb
            obtain ⟨cA0, cA1⟩ := A.out.two
            have lA := A.out.lt
            go_wp2_with fail
            clear cA0 cA1 lA
            with_reducible refine Calls.mono (P'.out _) ?_
            rintro e w5 ⟨rfl, hb⟩
            replace A := Lib.hid (A.out.next hb)
            replace Z := Lib.hid (Z.out.next hb)
            replace BB := Lib.hid (Below.andThen BB.out hb)
            clear hb
            obtain ⟨cZ0, cZ1⟩ := Z.out.two
            have lZ := Z.out.lt
            have f0 := Z.out.frozen 0
            have f1 := Z.out.frozen 1
            go_wp2_with fail
            refine bodyPost_ret (v := .tuple #[ratV (⟨#[]⟩, ⟨#[]⟩), .int .i64 40]) (by first | (simp [results, Tryz.results36, go_sem]; done) | simp [results, Tryz.results36, go_sem, *]) rfl ⟨rfl, (BB.out.setCell (p := ⟨b0, 0, none⟩) HL.out.1 _).setCell (p := ⟨b0, 1, none⟩) HL.out.1 _⟩
          · rw [if_pos rfl] at K2
            have hr := K2.out
            subst hr
            clear K2
            obtain ⟨cA0, cA1⟩ := A.out.two
            have lA := A.out.lt
            go_wp2_with fail
            clear cA0 cA1 lA
            with_reducible refine Calls.mono (V'.out _) ?_
            rintro e w4 ⟨rfl, hb⟩
            replace A := Lib.hid (A.out.next hb)
            replace Z := Lib.hid (Z.out.next hb)
            replace BB := Lib.hid (Below.andThen BB.out hb)
            clear hb
            obtain ⟨cA0, cA1⟩ := A.out.two
            have lA := A.out.lt
            go_wp2_with fail
            clear cA0 cA1 lA
            with_reducible refine Calls.mono (P'.out _) ?_
            rintro e w5 ⟨rfl, hb⟩
            replace A := Lib.hid (A.out.next hb)
            replace Z := Lib.hid (Z.out.next hb)
            replace BB := Lib.hid (Below.andThen BB.out hb)
            clear hb
            obtain ⟨cZ0, cZ1⟩ := Z.out.two
            have lZ := Z.out.lt
            obtain ⟨cA0, cA1⟩ := A.out.two
            have lA := A.out.lt
            have f0 := Z.out.frozen 0
            have f1 := Z.out.frozen 1
            go_wp2_with fail
            refine bodyPost_ret (v := .tuple #[ratV (N, D), .int .i64 0]) (by first | (simp [results, Tryz.results36, go_sem]; done) | simp [results, Tryz.results36, go_sem, *]) rfl ⟨rfl, (BB.out.setCell (p := ⟨b0, 0, none⟩) HL.out.1 _).setCell (p := ⟨b0, 1, none⟩) HL.out.1 _⟩
      · have hz1 : (s[i]'hlt).toNat ≠ 47 := fun h => h47 (UInt8.toNat_inj.1 h)
        have d2 : (((s[i]'hlt).toNat : Int) == 47) = false := by rw [beq_eq_false_iff_ne]; omega
        have HN2 := Lib.hid (show ∀ k : Nat, k < i + 1 → s.data.toList[k]? ≠ some 47 from fun k hk => by
          rcases Nat.lt_succ_iff_lt_or_eq.1 hk with h | h
          · exact HNO.out k h
          · rw [h, hat]
            intro e
            exact h47 (Option.some.inj e))
        clear hat
        go_wp2_with fail
        go_round
        case rel => exact ⟨i + 1, vint (by omega), by omega, HN2.out, by first | trivial | rfl⟩
        case measure => simp [intOf]; omega
    · obtain rfl : i = s.size := by omega
      have hp := PM.out (fun k => by
        by_cases h : k < s.size
        · exact HNO.out k h
        · rw [List.getElem?_eq_none (by rw [HLEN.out]; omega)]
          intro e; cases e)
      have TL := Lib.hid (TAIL.out _ _ hp hs (by decide))
      clear TAIL PM PH hp
      go_upto_region 7 with (fail)
      rcases TL.out with ⟨k1, k2, V⟩ | ⟨P, b, k1, k2, V, PP⟩
      · have V' := Lib.hid V
        have hr := HNONE.out k2
        subst hr
        clear V k1 k2 TL
        obtain ⟨cA0, cA1⟩ := A.out.two
        have lA := A.out.lt
        go_wp2_with fail
        clear cA0 cA1 lA
        with_reducible refine Calls.mono (V'.out _) ?_
        rintro e w4 ⟨rfl, hb⟩
        replace Z := Lib.hid (Z.out.next hb)
        replace BB := Lib.hid (Below.andThen BB.out hb)
        clear hb
        obtain ⟨cZ0, cZ1⟩ := Z.out.two
        have lZ := Z.out.lt
        have f0 := Z.out.frozen 0
        have f1 := Z.out.frozen 1
        go_wp2_with fail
        refine bodyPost_ret (v := .tuple #[ratV (⟨#[]⟩, ⟨#[]⟩), .int .i64 40]) (by first | (simp [results, Tryz.results36, go_sem]; done) | simp [results, Tryz.results36, go_sem, *]) rfl ⟨rfl, (BB.out.setCell (p := ⟨b0, 0, none⟩) HL.out.1 _).setCell (p := ⟨b0, 1, none⟩) HL.out.1 _⟩
      · have V' := Lib.hid V
        have P' := Lib.hid PP
        have K2 := Lib.hid k2
        clear V PP TL k2
        cases b
        · rw [if_neg (by decide)] at K2
          have hr := K2.out
          subst hr
          clear K2
          obtain ⟨cA0, cA1⟩ := A.out.two
          have lA := A.out.lt
          go_wp2_with fail
          clear cA0 cA1 lA
          with_reducible refine Calls.mono (V'.out _) ?_
          rintro e w4 ⟨rfl, hb⟩
          replace A := Lib.hid (A.out.next hb)
          replace Z := Lib.hid (Z.out.next hb)
          replace BB := Lib.hid (Below.andThen BB.out hb)
          clear hb
          obtain ⟨cA0, cA1⟩ := A.out.two
          have lA := A.out.lt
          go_wp2_with fail
          clear cA0 cA1 lA
          with_reducible refine Calls.mono (P'.out _) ?_
          rintro e w5 ⟨rfl, hb⟩
          replace A := Lib.hid (A.out.next hb)
          replace Z := Lib.hid (Z.out.next hb)
          replace BB := Lib.hid (Below.andThen BB.out hb)
          clear hb
          obtain ⟨cZ0, cZ1⟩ := Z.out.two
          have lZ := Z.out.lt
          have f0 := Z.out.frozen 0
          have f1 := Z.out.frozen 1
          go_wp2_with fail
          refine bodyPost_ret (v := .tuple #[ratV (⟨#[]⟩, ⟨#[]⟩), .int .i64 40]) (by first | (simp [results, Tryz.results36, go_sem]; done) | simp [results, Tryz.results36, go_sem, *]) rfl ⟨rfl, (BB.out.setCell (p := ⟨b0, 0, none⟩) HL.out.1 _).setCell (p := ⟨b0, 1, none⟩) HL.out.1 _⟩
        · rw [if_pos rfl] at K2
          have hr := K2.out
          subst hr
          clear K2
          obtain ⟨cA0, cA1⟩ := A.out.two
          have lA := A.out.lt
          go_wp2_with fail
          clear cA0 cA1 lA
          with_reducible refine Calls.mono (V'.out _) ?_
          rintro e w4 ⟨rfl, hb⟩
          replace A := Lib.hid (A.out.next hb)
          replace Z := Lib.hid (Z.out.next hb)
          replace BB := Lib.hid (Below.andThen BB.out hb)
          clear hb
          obtain ⟨cA0, cA1⟩ := A.out.two
          have lA := A.out.lt
          go_wp2_with fail
          clear cA0 cA1 lA
          with_reducible refine Calls.mono (P'.out _) ?_
          rintro e w5 ⟨rfl, hb⟩
          replace A := Lib.hid (A.out.next hb)
          replace Z := Lib.hid (Z.out.next hb)
          replace BB := Lib.hid (Below.andThen BB.out hb)
          clear hb
          obtain ⟨cZ0, cZ1⟩ := Z.out.two
          have lZ := Z.out.lt
          obtain ⟨cA0, cA1⟩ := A.out.two
          have lA := A.out.lt
          have f0 := Z.out.frozen 0
          have f1 := Z.out.frozen 1
          go_wp2_with fail
          refine bodyPost_ret (v := .tuple #[ratV (s, ⟨#[49]⟩), .int .i64 0]) (by first | (simp [results, Tryz.results36, go_sem]; done) | simp [results, Tryz.results36, go_sem, *]) rfl ⟨rfl, (BB.out.setCell (p := ⟨b0, 0, none⟩) HL.out.1 _).setCell (p := ⟨b0, 1, none⟩) HL.out.1 _⟩
end Go.Proofs.YtlehjmanlccncaaGreatDoor
