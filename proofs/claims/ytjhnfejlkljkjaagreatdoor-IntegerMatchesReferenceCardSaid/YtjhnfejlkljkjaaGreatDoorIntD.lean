/- Natural numbers in groups: a group in front, comparison. -/
import Derived.Test.YtjhnfejlkljkjaaGreatDoorIntC
import Derived.BigRegion
namespace Go.Proofs.YtjhnfejlkljkjaaGreatDoor
open Go.RowKit

theorem own_block {W : World} {b k : Nat} {e : TypeId} {size : Nat} {v : Value} {xs : List Value} (h : W.ownsRow b e size v k xs) : ∀ j, v.ownBlock = some j → b ≤ j := by
  intro j hj
  rcases h.2 with ⟨rfl, _⟩ | ⟨g, cap, cur, rfl, hgb, _⟩
  · cases hj
  · simp [Value.ownBlock] at hj
    omega
theorem own_lsl {w : World} {B : Nat} {t : TypeId} {g n c : Nat} {xs : List Nat} (h : w.ownsRow B t 1 (.slice (some ⟨g, 0, none⟩) n c) n (xs.map natV)) : LSl w (some ⟨g, 0, none⟩) xs := by
  rcases h.2 with ⟨h1, _⟩ | ⟨g', cap, cur, h1, hg, hb, _⟩
  · cases h1
  · cases h1
    refine .inr ⟨g, 0, rfl, (Array.getElem?_eq_some_iff.1 hb).1, fun j x hx => ?_⟩
    have := h.cells (g := g) rfl j (natV x) (by rw [List.getElem?_map, hx]; rfl)
    have e : Addr.add ⟨g, 0, none⟩ j = ⟨g, j, none⟩ := by unfold Addr.add; split <;> simp_all
    rw [e] at this
    rw [Nat.zero_add]
    exact this
theorem own_some {w : World} {B : Nat} {t : TypeId} {v : Value} {n : Nat} {xs : List Value} (h : w.ownsRow B t 1 v n xs) (hn : 0 < n) : ∃ g c, v = .slice (some ⟨g, 0, none⟩) n c ∧ n ≤ c ∧ c ≤ maxLen ∧ B ≤ g := by
  rcases h.2 with ⟨_, rfl⟩ | ⟨g, cap, cur, rfl, h0, _, h1, h2, _⟩
  · omega
  · exact ⟨g, cap, rfl, h1, h2, h0⟩
theorem natV_one (xs : List Nat) : ∀ u ∈ xs.map natV, u.oneCell' = true := by
  intro u hu
  obtain ⟨x, _, rfl⟩ := List.mem_map.1 hu
  rfl
/-- the numbers of a slice, which may be nil, behind an own slice -/
theorem run_append_nats (w : World) (t : TypeId) (ht : Tryz.prog.underlying t = some (.slice 3)) (B : Nat) (v : Value) (n : Nat) (xs : List Nat) (hown : w.ownsRow B 3 1 v n (xs.map natV)) (po : Option Addr) (m c : Nat) (ns : List Nat) (hm : ns.length = m) (hnil : po = none → c = 0) (hS : LSl w po ns)
    (hl : n + m ≤ 2 ^ 40) (hB : B ≤ w.heap.size) :
    ∃ v' w', (Builtin.append_ #[t, t] t #[v, .slice po m c]).run Tryz.prog w = .ok v' w' ∧ w'.ownsRow B 3 1 v' (n + m) ((xs ++ ns).map natV) ∧ w.grownBy w' v.ownBlock := by
  obtain ⟨i0, hi0, hz0, hz1, hz2⟩ := info_parts infoInt
  cases po with
  | none =>
    have hn : ns = [] := by
      rcases hS with h | ⟨b, off, h, _⟩
      · exact h
      · cases h
    subst hn
    obtain rfl : m = 0 := hm.symm
    obtain rfl := hnil rfl
    refine ⟨v, w, ?_, by simpa using hown, World.grownBy.refl _ _⟩
    rcases hown.2 with ⟨rfl, rfl⟩ | ⟨g, cap, cur, rfl, _, _, hnc, _⟩
    · simp [Builtin.append_, run_underlying ht, sizeOf, typeInfo, hi0, Builtin.lenOf, Builtin.firstCells, loadCells, loadCellsFrom]
    · simp [Builtin.append_, run_underlying ht, sizeOf, typeInfo, hi0, Builtin.lenOf, Builtin.firstCells, loadCells, loadCellsFrom, hnc, storeCells]
  | some a =>
    have hc : ∀ j u, (ns.map natV)[j]? = some u → w.cell? (a.add j) = some u := by
      intro j u hj
      rw [List.getElem?_map] at hj
      obtain ⟨x, hx, rfl⟩ := Option.map_eq_some_iff.1 hj
      rcases hS with rfl | ⟨b, off, h, hl, hc⟩
      · simp at hx
      · cases h
        have e : Addr.add ⟨b, off, none⟩ j = ⟨b, off + j, none⟩ := by unfold Addr.add; split <;> simp_all
        rw [e]
        exact hc j x hx
    obtain ⟨v', w', hr, h2, h3, _⟩ := run_append_own (P := Tryz.prog) w B t t 3 i0 (.int .i64 0) 1 8 ht hi0 hz0 hz1 hz2 rfl (by decide) v n (xs.map natV) hown a m c (ns.map natV) (by simp [hm]) hc (natV_one _) (by unfold maxLen; omega) (by omega) hB
    refine ⟨v', w', hr, ?_, h3⟩
    rw [List.map_append]
    exact h2
theorem wpList_append_nats {ops : Array Oper} {rest : List Oper} {o : Oper} {a : Act} {w : World} {Q : Exit → Act → World → Prop} (hgd : o.guard = none) (s x : Operand) (t : TypeId) (ht : Tryz.prog.underlying t = some (.slice 3))
    (ho : o.op = .call { callee := .builtin .append, args := #[s, x], argTypes := #[t, t] }) (hty : o.type = t)
    (B : Nat) (v : Value) (n : Nat) (xs : List Nat) (hs : a.eval s = v) (hown : w.ownsRow B 3 1 v n (xs.map natV)) (po : Option Addr) (m c : Nat) (ns : List Nat) (hx : a.eval x = .slice po m c) (hm : ns.length = m) (hnil : po = none → c = 0) (hS : LSl w po ns)
    (hl : n + m ≤ 2 ^ 40) (hB : B ≤ w.heap.size) (h : ∀ v' w', w'.ownsRow B 3 1 v' (n + m) ((xs ++ ns).map natV) → w.grownBy w' v.ownBlock → wpList Tryz.prog ops Q rest (a.put o.dst v') w') : wpList Tryz.prog ops Q (o :: rest) a w :=
  wpList_plain hgd fun _ hK => by
    obtain ⟨v', w', hr, h2, h3⟩ := run_append_nats w t ht B v n xs hown po m c ns hm hnil hS hl hB
    unfold Oper.wp execOp
    simp only [ho, hty, resolve, invoke, builtin, Sem.run_bind, Sem.run_pure, Result.andThen_ok, List.map_toArray, List.map_cons, List.map_nil, hs, hx, hr]
    exact hK _ _ (h v' w' h2 h3)
theorem made_one (w : World) (x : Nat) {B n : Nat} (hB : B ≤ w.heap.size) (hn : w.heap.size = n) : (w.alloc (.cells #[natV x] 3)).ownsRow B 3 1 (.slice (some ⟨n, 0, none⟩) 1 1) 1 ([x].map natV) := by
  subst hn
  exact ⟨rfl, .inr ⟨w.heap.size, 1, #[natV x], rfl, hB, Row.new w 3 [natV x], Nat.le_refl _, by decide, rfl, rfl⟩⟩

set_option maxRecDepth 100000 in
set_option maxHeartbeats 1000000 in
theorem shifted_new (u : Value) (a g : Nat) (w : World) (hu : NSl w u a) (ha : (In.gs a).length ≤ 1000) (hg : g < 10000) :
    Calls Tryz.prog 60 #[u, .int .i64 g] w fun e w' => ∃ r, e = .returned r ∧ NSl w' r (a * 10000 + g) ∧ Below w.heap.size w w' ∧ ∀ k, r.ownBlock = some k → w.heap.size ≤ k := by
  obtain ⟨o, c, rfl, a1, a2, a3, a4⟩ := hu.ex
  obtain ⟨M, hM⟩ : ∃ L, (In.gs a).length = L := ⟨_, rfl⟩
  rw [hM] at ha a1 ⊢
  have hv : In.nv 10000 ([g] ++ In.gs a) = a * 10000 + g := by
    show g + 10000 * In.nv 10000 (In.gs a) = _
    rw [In.nv_gr (by decide)]
    omega
  have HL := Lib.hid (show ∀ x ∈ [g] ++ In.gs a, x < 10000 from fun x hx => by
    rcases List.mem_append.1 hx with h | h
    · rw [List.mem_singleton.1 h]; exact hg
    · exact In.gs_lt a x h)
  have HLL := Lib.hid (show ([g] ++ In.gs a).length = 1 + M from by rw [List.length_append, hM]; rfl)
  have CT := Lib.hid (fun (W : World) (g' c' : Nat) (h1 : 1 + M ≤ c') (h2 : c' ≤ 9223372036854775807) (h : LSl W (some ⟨g', 0, none⟩) ([g] ++ In.gs a)) => trim_any (some ⟨g', 0, none⟩) (1 + M) c' ([g] ++ In.gs a) W HLL.out HL.out h1 h2 (fun h => by cases h) h)
  rw [hv] at CT
  have HA := Lib.hid a4
  have HM := Lib.hid hM
  clear a4 hM hu hv
  go_enter Tryz.func60, Tryz.ntmps60
  go_wp2_with (at_builtin; refine wpList_append_nats rfl _ _ 45 Tryz.underlying45 rfl rfl w.heap.size (.slice (some ⟨w.heap.size, 0, none⟩) 1 1) 1 [g] rfl (made_one w g (Nat.le_refl _) rfl) o M c (In.gs a) rfl HM.out a3 (HA.out.next ((Below.refl _ _).alloc (Nat.le_refl _) _)) (by omega) (by simp) ?_; intro v' w2 hown' hgrow; have K := Lib.hid (And.intro hown' (((Below.refl w.heap.size w).alloc (Nat.le_refl _) (.cells #[natV g] 3)).grown hgrow (by simp) (fun k hk => by simp [Value.ownBlock] at hk; omega))); clear hown' hgrow)
  obtain ⟨g', c', rfl, h1, h2, hg0⟩ := own_some K.out.1 (by omega)
  have CT2 := Lib.hid (CT.out w2 g' c' h1 h2 (own_lsl K.out.1))
  clear CT h1 h2
  with_reducible refine Calls.mono CT2.out ?_
  rintro e w3 ⟨r, rfl, hn, hb⟩
  have HF := Lib.hid (And.intro hn (Below.andThen K.out.2 hb))
  clear hn hb
  have HG := Lib.hid hg0
  clear hg0
  go_wp2_with fail
  go_ret
  exact ⟨_, rfl, HF.out.1, HF.out.2, fun k hk => by
    have := HG.out
    have h : g' = k := by simpa [Value.ownBlock] using hk
    omega⟩
theorem shifted_any (u : Value) (a g : Nat) (w : World) (hu : NSl w u a) (ha : (In.gs a).length ≤ 1000) (hg : g < 10000) :
    Calls Tryz.prog 60 #[u, .int .i64 g] w fun e w' => ∃ r, e = .returned r ∧ NSl w' r (a * 10000 + g) ∧ Below w.heap.size w w' :=
  (shifted_new u a g w hu ha hg).mono fun _ _ ⟨r, h1, h2, h3, _⟩ => ⟨r, h1, h2, h3⟩

set_option maxRecDepth 100000 in
set_option maxHeartbeats 1000000 in
theorem compare_any (u v : Value) (a b : Nat) (w : World) (hu : NSl w u a) (hv : NSl w v b) (ha : (In.gs a).length ≤ 1000) (hb : (In.gs b).length ≤ 1000) :
    Calls Tryz.prog 55 #[u, v] w fun e w' => e = .returned (.int .i64 (In.cmpN a b)) ∧ Below w.heap.size w w' := by
  obtain ⟨o, c, rfl, a1, a2, a3, a4⟩ := hu.ex
  obtain ⟨o', c', rfl, b1, b2, b3, b4⟩ := hv.ex
  obtain ⟨M, hM⟩ : ∃ L, (In.gs a).length = L := ⟨_, rfl⟩
  obtain ⟨N, hN⟩ : ∃ L, (In.gs b).length = L := ⟨_, rfl⟩
  rw [hM] at ha a1 ⊢
  rw [hN] at hb b1 ⊢
  have HBR := Lib.hid (Below.refl w.heap.size w)
  by_cases hMN : M = N
  · subst hMN
    have HA := Lib.hid a4
    have HB := Lib.hid b4
    have HM := Lib.hid hM
    have HN := Lib.hid hN
    clear a4 b4 hM hN hu hv
    go_enter Tryz.func55, Tryz.ntmps55
    go_wp2_with fail
    go_loopw [5] (fun iv wr => ∃ k : Nat, k ≤ M ∧ iv = .int .i64 ((k : Int) - 1) ∧ a / 10000 ^ k = b / 10000 ^ k ∧ Below w.heap.size w wr) (fun iv _ => (intOf iv + 1).toNat)
    case atStart => exact ⟨M, Nat.le_refl _, rfl, by rw [← HM.out, In.gs_top, HM.out, ← HN.out, In.gs_top], HBR.out⟩
    case round =>
      obtain ⟨k, hk, rfl, heq, hB⟩ := hrel
      replace HA := Lib.hid (HA.out.next hB)
      replace HB := Lib.hid (HB.out.next hB)
      replace HBR := Lib.hid hB
      have HE := Lib.hid heq
      clear heq hB
      cases k with
      | zero =>
        have HR := Lib.hid (show In.cmpN a b = 0 from by
          have := HE.out
          rw [Nat.pow_zero, Nat.div_one, Nat.div_one] at this
          rw [this, In.cmpN_eq])
        rw [show ((0 : Nat) : Int) - 1 = -1 from rfl]
        go_wp2_with fail
        go_ret
        exact ⟨retv (vint HR.out.symm), HBR.out⟩
      | succ k =>
        rw [show ((k + 1 : Nat) : Int) - 1 = (k : Int) by omega]
        have hx := In.gs_at (n := a) (i := k) (by rw [HM.out]; omega)
        have hy := In.gs_at (n := b) (i := k) (by rw [HN.out]; omega)
        have HX2 := Lib.hid (fun (h : a / 10000 ^ k % 10000 < b / 10000 ^ k % 10000) => In.cmpN_lt (In.cmp_group HE.out h))
        have HY2 := Lib.hid (fun (h : b / 10000 ^ k % 10000 < a / 10000 ^ k % 10000) => In.cmpN_gt (In.cmp_group HE.out.symm h))
        have HQ := Lib.hid (fun (h : a / 10000 ^ k % 10000 = b / 10000 ^ k % 10000) => In.cmp_next HE.out h)
        have lx : a / 10000 ^ k % 10000 < 10000 := Nat.mod_lt _ (by decide)
        have ly : b / 10000 ^ k % 10000 < 10000 := Nat.mod_lt _ (by decide)
        generalize a / 10000 ^ k % 10000 = x at *
        generalize b / 10000 ^ k % 10000 = y at *
        rcases HA.out with h | ⟨p, off, rfl, hp, hcell⟩
        · rw [h] at hx; simp at hx
        rcases HB.out with h | ⟨p', off', rfl, hp', hcell'⟩
        · rw [h] at hy; simp at hy
        have c1 := hcell k x hx
        have c2 := hcell' k y hy
        have c3 : wr.drew.cell? ⟨p, off + k, none⟩ = some (natV x) := c1
        have c4 : wr.drew.cell? ⟨p', off' + k, none⟩ = some (natV y) := c2
        clear hx hy hcell hcell' HE
        by_cases hxy : x = y
        · subst hxy
          have HQ2 := Lib.hid (HQ.out rfl)
          clear HX2 HY2 HQ
          go_upto_region 6 with (fail)
          refine wp_region_kin (by kernel_rfl) (by kernel_rfl) wr.heap.size 0 (by simp) (fun hk => ?_)
          repeat (go_big_quiet_step (fail))
          refine wpQuiet_nil ?_
          clear hk
          intro W2 hb
          have HB2 := Lib.hid (Below.andThen HBR.out hb)
          clear hb
          go_wp2_with fail
          refine ⟨⟨k, by omega, by first | rfl | go_num, HQ2.out, HB2.out⟩, by simp [intOf]⟩
        · have HS := Lib.hid (show sgnI ((x : Int) - y) = In.cmpN a b from by
            unfold sgnI
            rcases Nat.lt_or_ge x y with h | h
            · rw [if_pos (by omega), HX2.out h]
            · rw [if_neg (by omega), if_pos (by omega), HY2.out (by omega)])
          have CS := Lib.hid (fun (W : World) => sign_any ((x : Int) - y) W)
          rw [HS.out] at CS
          have n1 : ¬ (x : Int) = y := by omega
          have n2 : decide ((x : Int) = y) = false := by simp; omega
          have n3 : ((x : Int) != y) = true := by simp; omega
          clear HX2 HY2 HQ HS
          go_upto_region 6 with (fail)
          refine wp_region_kin (by kernel_rfl) (by kernel_rfl) wr.heap.size 0 (by simp) (fun hk => ?_)
          repeat (go_big_quiet_step (fail))
          refine wpQuiet_nil ?_
          clear hk
          intro W2 hb
          have HB2 := Lib.hid (Below.andThen HBR.out hb)
          have c5 := (hb.cell (p := ⟨p, off + k, none⟩) hp).trans c1
          have c6 := (hb.cell (p := ⟨p', off' + k, none⟩) hp').trans c2
          have hp2 := Nat.lt_of_lt_of_le hp hb.size
          have hp3 := Nat.lt_of_lt_of_le hp' hb.size
          clear hb c1 c2 c3 c4 hp hp'
          go_wp2_with fail
          refine wp_region_kin (by kernel_rfl) (by kernel_rfl) W2.heap.size 0 (by simp) (fun hk => ?_)
          repeat (go_big_quiet_step (first | (go_at_call 72; with_reducible exact Calls.kin_same (CS.out _))))
          refine wpQuiet_nil ?_
          clear hk
          intro W3 hb
          have HB3 := Lib.hid (Below.andThen HB2.out hb)
          clear hb
          go_wp2_with fail
          go_ret
          exact ⟨rfl, HB3.out⟩
  · have HS := Lib.hid (show sgnI ((M : Int) - N) = In.cmpN a b from by
      unfold sgnI
      rcases Nat.lt_or_ge M N with h | h
      · rw [if_pos (by omega), In.cmpN_lt (In.cmp_len (by rw [hM, hN]; exact h))]
      · rw [if_neg (by omega), if_pos (by omega), In.cmpN_gt (In.cmp_len (by rw [hM, hN]; omega))])
    have CS := Lib.hid (fun (W : World) => sign_any ((M : Int) - N) W)
    rw [HS.out] at CS
    have n1 : ¬ (M : Int) = N := by omega
    have n2 : decide ((M : Int) = N) = false := by simp; omega
    have n3 : ((M : Int) != N) = true := by simp; omega
    generalize In.cmpN a b = R at *
    clear HS a4 b4 hM hN hu hv
    go_enter Tryz.func55, Tryz.ntmps55
    go_wp2_with (go_at_call 72; with_reducible refine Calls.mono (CS.out _) ?_; rintro e w' ⟨rfl, rfl⟩)
    go_ret
    exact ⟨rfl, HBR.out⟩
end Go.Proofs.YtjhnfejlkljkjaaGreatDoor
