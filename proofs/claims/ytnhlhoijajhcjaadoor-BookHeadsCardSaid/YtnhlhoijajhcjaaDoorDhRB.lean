/- The reference's SHA-256: a block. -/
import Derived.Test.YtnhlhoijajhcjaaDoorDhRA
import Derived.BigRegion
import Derived.Deep.RegionWith
import Derived.Deep.DeepCutAuto
import Derived.Deep.RegionHeld3
import Derived.Deep.RegionLaw
import Derived.Deep.AppendLies
set_option linter.unusedVariables false
set_option linter.unusedSimpArgs false
set_option linter.unnecessarySimpa false
namespace Go.Proofs.YtnhlhoijajhcjaaDoor
open Go.RowKit

theorem infoWord : (Tryd.prog.info? 68).map (fun i => (i.zero, i.size, i.bytes)) = some (some (.int .u32 0), 1, 4) := by kernel_rfl
theorem own_at {W : World} {b n n' cap g : Nat} {e : TypeId} {size : Nat} {xs : List Value} (h : W.ownsRow b e size (.slice (some ⟨g, 0, none⟩) n cap) n' xs) {j : Nat} {u : Value} (hu : xs[j]? = some u) : W.cell? ⟨g, j, none⟩ = some u := by
  have h1 := h.cells (g := g) rfl j u hu
  have e1 : Addr.add ⟨g, 0, none⟩ j = ⟨g, j, none⟩ := by unfold Addr.add; split <;> simp_all
  rwa [e1] at h1
theorem own_next {W W' : World} {b n : Nat} {e : TypeId} {size : Nat} {v : Value} {xs : List Value} (h : W.ownsRow b e size v n xs) (hb : Below W.heap.size W W') : W'.ownsRow b e size v n xs := by
  refine ⟨h.1, ?_⟩
  rcases h.2 with h0 | ⟨g, cap, cur, rfl, h1, h2, h3⟩
  · exact .inl h0
  · exact .inr ⟨g, cap, cur, rfl, h1, (hb.block g (Array.getElem?_eq_some_iff.1 h2).1).trans h2, h3⟩
theorem own_slice {W : World} {b n : Nat} {e : TypeId} {size : Nat} {v : Value} {xs : List Value} (h : W.ownsRow b e size v n xs) (hn : 0 < n) : ∃ g cap, v = .slice (some ⟨g, 0, none⟩) n cap ∧ b ≤ g ∧ g < W.heap.size := by
  rcases h.2 with ⟨_, rfl⟩ | ⟨g, cap, cur, rfl, h1, h2, _⟩
  · omega
  · exact ⟨g, cap, rfl, h1, (Array.getElem?_eq_some_iff.1 h2).1⟩
theorem map_at {l : List Nat} {f : Nat → Value} {i : Nat} (h : i < l.length) : (l.map f)[i]? = some (f l[i]) := by rw [List.getElem?_map, List.getElem?_eq_getElem h]; rfl
theorem word_wraps {a b c d : Nat} (ha : a < 256) (hb : b < 256) (hc : c < 256) (hd : d < 256) :
    bits BinOp.or .u32 (bits BinOp.or .u32 (bits BinOp.or .u32 (IntKind.u32.wrap (IntKind.u32.wrap (a : Int) * 16777216)) (IntKind.u32.wrap (IntKind.u32.wrap (b : Int) * 65536))) (IntKind.u32.wrap (IntKind.u32.wrap (c : Int) * 256))) (IntKind.u32.wrap (d : Int)) = ((Sha.word4 a b c d : Nat) : Int) ∧ Sha.word4 a b c d < 2 ^ 32 := by
  have e : ∀ x : Nat, x < 256 → IntKind.u32.wrap (x : Int) = (x : Int) := fun x h => wrap32 (by omega)
  have e1 : ∀ (x k : Nat), x * k < 2 ^ 32 → IntKind.u32.wrap ((x : Int) * (k : Int)) = (x : Int) * (k : Int) := fun x k h => by
    have := wrap32 (n := x * k) h
    rwa [Int.natCast_mul] at this
  rw [e a ha, e b hb, e c hc, e d hd, show (16777216 : Int) = ((16777216 : Nat) : Int) from rfl, show (65536 : Int) = ((65536 : Nat) : Int) from rfl, show (256 : Int) = ((256 : Nat) : Int) from rfl, e1 a _ (by omega), e1 b _ (by omega), e1 c _ (by omega)]
  exact word_eq ha hb hc hd
theorem wrap_sum4 (a b c d : Nat) : IntKind.u32.wrap (IntKind.u32.wrap (IntKind.u32.wrap ((a : Int) + (b : Int)) + (c : Int)) + (d : Int)) = (((a + b + c + d) % 4294967296 : Nat) : Int) := by
  simp [IntKind.wrap, IntKind.bits, IntKind.signed]
theorem ch_if {e f g : Nat} (he : e < 2 ^ 32) (hf : f < 2 ^ 32) (hg : g < 2 ^ 32) : bits BinOp.xor .u32 (bits BinOp.and .u32 (e : Int) (f : Int)) (bits BinOp.and .u32 (bits BinOp.xor .u32 (if IntKind.u32.signed = true then -1 else IntKind.u32.max) (e : Int)) (g : Int)) = ((Sha.ch e f g : Nat) : Int) := (ch_eq he hf hg).1
theorem t1_mod (a b c d e f g z k v : Nat) : (((z : Int) + ((Sha.big1 e : Nat) : Int) + ((Sha.ch e f g : Nat) : Int) + (k : Int)) % 4294967296 + (v : Int)) % 4294967296 = ((Sha.t1 ⟨a, b, c, d, e, f, g, z⟩ k v : Nat) : Int) := by
  simp only [Sha.t1]
  omega
theorem t2_mod (a b c d e f g z : Nat) : (((Sha.big0 a : Nat) : Int) + ((Sha.maj a b c : Nat) : Int)) % 4294967296 = ((Sha.t2 ⟨a, b, c, d, e, f, g, z⟩ : Nat) : Int) := by
  simp only [Sha.t2]
  omega
theorem plus_list (s t : Sha.St) : (Sha.plus s t).list = List.zipWith (fun x y => (x + y) % 4294967296) s.list t.list := by
  obtain ⟨a, b, c, d, e, f, g, h⟩ := s
  obtain ⟨a', b', c', d', e', f', g', h'⟩ := t
  rfl
theorem list_len (s : Sha.St) : s.list.length = 8 := rfl
theorem stC_plus (s t : Sha.St) (j x y : Nat) (hx : s.list[j]? = some x) (hy : t.list[j]? = some y) : (stC (Sha.plus s t)).take (j + 1) = (stC (Sha.plus s t)).take j ++ [.int .u32 (IntKind.u32.wrap ((x : Int) + (y : Int)))] := by
  have e : IntKind.u32.wrap ((x : Int) + (y : Int)) = (((x + y) % 4294967296 : Nat) : Int) := by simp [IntKind.wrap, IntKind.bits, IntKind.signed]
  have h : (stC (Sha.plus s t))[j]? = some (wordV ((x + y) % 4294967296)) := by
    rw [stC, plus_list, List.getElem?_map, List.getElem?_zipWith, hx, hy]
    rfl
  rw [List.take_add_one, h, e]
  rfl
theorem stC_at (s : Sha.St) (j x : Nat) (hx : s.list[j]? = some x) : (stC s)[j]? = some (wordV x) := by
  rw [stC, List.getElem?_map, hx]
  rfl
theorem own_weaken {W : World} {b b' n : Nat} {e : TypeId} {size : Nat} {v : Value} {xs : List Value} (h : W.ownsRow b e size v n xs) (hb : b' ≤ b) : W.ownsRow b' e size v n xs := by
  refine ⟨h.1, ?_⟩
  rcases h.2 with h0 | ⟨g, cap, cur, rfl, h1, h2⟩
  · exact .inl h0
  · exact .inr ⟨g, cap, cur, rfl, Nat.le_trans hb h1, h2⟩
theorem sig0_bits {x : Nat} (hx : x < 2 ^ 32) : bits BinOp.xor .u32 (bits BinOp.xor .u32 ((Sha.rot x 7 : Nat) : Int) ((Sha.rot x 18 : Nat) : Int)) ((x : Int) / 8) = ((Sha.sig0 x : Nat) : Int) ∧ Sha.sig0 x < 2 ^ 32 := by
  rw [shr_eq x 3 8 (by decide), xor32 (rot_lt x 7 hx) (rot_lt x 18 hx), xor32 (Nat.xor_lt_two_pow (rot_lt x 7 hx) (rot_lt x 18 hx)) (shr_lt 3 hx)]
  exact ⟨rfl, Nat.xor_lt_two_pow (Nat.xor_lt_two_pow (rot_lt x 7 hx) (rot_lt x 18 hx)) (shr_lt 3 hx)⟩
theorem sig1_bits {x : Nat} (hx : x < 2 ^ 32) : bits BinOp.xor .u32 (bits BinOp.xor .u32 ((Sha.rot x 17 : Nat) : Int) ((Sha.rot x 19 : Nat) : Int)) ((x : Int) / 1024) = ((Sha.sig1 x : Nat) : Int) ∧ Sha.sig1 x < 2 ^ 32 := by
  rw [shr_eq x 10 1024 (by decide), xor32 (rot_lt x 17 hx) (rot_lt x 19 hx), xor32 (Nat.xor_lt_two_pow (rot_lt x 17 hx) (rot_lt x 19 hx)) (shr_lt 10 hx)]
  exact ⟨rfl, Nat.xor_lt_two_pow (Nat.xor_lt_two_pow (rot_lt x 17 hx) (rot_lt x 19 hx)) (shr_lt 10 hx)⟩
theorem big1_bits {x : Nat} (hx : x < 2 ^ 32) : bits BinOp.xor .u32 (bits BinOp.xor .u32 ((Sha.rot x 6 : Nat) : Int) ((Sha.rot x 11 : Nat) : Int)) ((Sha.rot x 25 : Nat) : Int) = ((Sha.big1 x : Nat) : Int) := by
  rw [xor32 (rot_lt x 6 hx) (rot_lt x 11 hx), xor32 (Nat.xor_lt_two_pow (rot_lt x 6 hx) (rot_lt x 11 hx)) (rot_lt x 25 hx)]
  rfl
theorem big0_bits {x : Nat} (hx : x < 2 ^ 32) : bits BinOp.xor .u32 (bits BinOp.xor .u32 ((Sha.rot x 2 : Nat) : Int) ((Sha.rot x 13 : Nat) : Int)) ((Sha.rot x 22 : Nat) : Int) = ((Sha.big0 x : Nat) : Int) := by
  rw [xor32 (rot_lt x 2 hx) (rot_lt x 13 hx), xor32 (Nat.xor_lt_two_pow (rot_lt x 2 hx) (rot_lt x 13 hx)) (rot_lt x 22 hx)]
  rfl

set_option maxRecDepth 100000 in
set_option maxHeartbeats 8000000 in
theorem refBlock_any (s : Sha.St) (C : List Nat) (hbk hcap bb off cap : Nat) (w : World) (hs : s.Ok) (hC : C.length = 64) (hb : ∀ x ∈ C, x < 256)
    (hH : ∀ j u, (stC s)[j]? = some u → w.cell? ⟨hbk, j, none⟩ = some u) (hl : hbk < w.heap.size)
    (hX : ∀ k x, C[k]? = some x → w.cell? ⟨bb, off + k, none⟩ = some (octV x)) (hl2 : bb < w.heap.size) :
    Calls Tryd.prog 36 #[.slice (some ⟨hbk, 0, none⟩) 8 hcap, .slice (some ⟨bb, off, none⟩) 64 cap] w fun e w' => ∃ v, e = .returned v ∧ Below w.heap.size w w' ∧ w'.ownsRow w.heap.size 68 1 v 8 (stC (Sha.mix s (Sha.schedule C))) := by
  obtain ⟨i0, hi, hz0, hz1, hz2⟩ := info_parts infoWord
  have HBY := Lib.hid hb
  have HH := Lib.hid hH
  have HXC := Lib.hid hX
  have HO := Lib.hid hs
  clear hb hH hX hs
  go_enter Tryd.func36, Tryd.ntmps36
  go_wp2_with fail
  go_loopw [5, 6] (fun v i wr => ∃ j : Nat, j ≤ 16 ∧ i = .int .i64 j ∧ wr.ownsRow w.heap.size 68 1 v j (((List.range j).map (Sha.word C)).map wordV) ∧ Below w.heap.size w wr) (fun _ i _ => 16 - (intOf i).toNat)
  case atStart => exact ⟨0, by omega, rfl, World.ownsRow_nil _ _ _ _, Below.refl _ _⟩
  case round =>
    obtain ⟨j, hj, rfl, hrow, hB⟩ := hrel
    by_cases hlt : j < 16
    · have q0 : 4 * j < C.length := by omega
      have q1 : 4 * j + 1 < C.length := by omega
      have q2 : 4 * j + 2 < C.length := by omega
      have q3 : 4 * j + 3 < C.length := by omega
      have HC := Lib.hid (And.intro (HXC.out (4 * j) _ (List.getElem?_eq_getElem q0)) (And.intro (HXC.out (4 * j + 1) _ (List.getElem?_eq_getElem q1)) (And.intro (HXC.out (4 * j + 2) _ (List.getElem?_eq_getElem q2)) (HXC.out (4 * j + 3) _ (List.getElem?_eq_getElem q3)))))
      have t0 : (4 * (j : Int)).toNat = 4 * j := by omega
      have c0 := (hB.cell (p := ⟨bb, off + 4 * j, none⟩) hl2).trans (HXC.out (4 * j) _ (List.getElem?_eq_getElem q0))
      have t1 : (4 * (j : Int) + 1).toNat = 4 * j + 1 := by omega
      have c1 := (hB.cell (p := ⟨bb, off + (4 * j + 1), none⟩) hl2).trans (HXC.out (4 * j + 1) _ (List.getElem?_eq_getElem q1))
      have t2 : (4 * (j : Int) + 2).toNat = 4 * j + 2 := by omega
      have c2 := (hB.cell (p := ⟨bb, off + (4 * j + 2), none⟩) hl2).trans (HXC.out (4 * j + 2) _ (List.getElem?_eq_getElem q2))
      have t3 : (4 * (j : Int) + 3).toNat = 4 * j + 3 := by omega
      have c3 := (hB.cell (p := ⟨bb, off + (4 * j + 3), none⟩) hl2).trans (HXC.out (4 * j + 3) _ (List.getElem?_eq_getElem q3))
      have l0 : bb < wr.heap.size := Nat.lt_of_lt_of_le hl2 hB.size
      have hW := word_wraps (HBY.out _ (List.getElem_mem q0)) (HBY.out _ (List.getElem_mem q1)) (HBY.out _ (List.getElem_mem q2)) (HBY.out _ (List.getElem_mem q3))
      have hWX : Sha.word4 C[4 * j] C[4 * j + 1] C[4 * j + 2] C[4 * j + 3] = Sha.word C j := by
        unfold Sha.word
        simp only [List.getD, List.getElem?_eq_getElem q0, List.getElem?_eq_getElem q1, List.getElem?_eq_getElem q2, List.getElem?_eq_getElem q3, Option.getD_some]
      rw [hWX] at hW
      have d0 := HBY.out _ (List.getElem_mem q0)
      have d1 := HBY.out _ (List.getElem_mem q1)
      have d2 := HBY.out _ (List.getElem_mem q2)
      have d3 := HBY.out _ (List.getElem_mem q3)
      generalize C[4 * j] = x0 at *
      generalize C[4 * j + 1] = x1 at *
      generalize C[4 * j + 2] = x2 at *
      generalize C[4 * j + 3] = x3 at *
      have HW := Lib.hid hW
      rw [← t3, ← t2, ← t1, ← t0] at HC
      rw [← t0] at c0
      rw [← t1] at c1
      rw [← t2] at c2
      rw [← t3] at c3
      clear t0 t1 t2 t3
      have HR := Lib.hid (And.intro hrow hB)
      clear hWX hW q0 q1 q2 q3 hrow hB
      have p0 : (0 : Int) ≤ 4 * (j : Int) := by omega
      have p1 : 4 * (j : Int) < 64 := by omega
      have u0 : IntKind.i64.wrap (4 * (j : Int)) = 4 * (j : Int) := by simp [IntKind.wrap, IntKind.bits, IntKind.signed]; omega
      have pa1 : (0 : Int) ≤ 4 * (j : Int) + 1 := by omega
      have pb1 : 4 * (j : Int) + 1 < 64 := by omega
      have u1 : IntKind.i64.wrap (4 * (j : Int) + 1) = 4 * (j : Int) + 1 := by simp [IntKind.wrap, IntKind.bits, IntKind.signed]; omega
      have pa2 : (0 : Int) ≤ 4 * (j : Int) + 2 := by omega
      have pb2 : 4 * (j : Int) + 2 < 64 := by omega
      have u2 : IntKind.i64.wrap (4 * (j : Int) + 2) = 4 * (j : Int) + 2 := by simp [IntKind.wrap, IntKind.bits, IntKind.signed]; omega
      have pa3 : (0 : Int) ≤ 4 * (j : Int) + 3 := by omega
      have pb3 : 4 * (j : Int) + 3 < 64 := by omega
      have u3 : IntKind.i64.wrap (4 * (j : Int) + 3) = 4 * (j : Int) + 3 := by simp [IntKind.wrap, IntKind.bits, IntKind.signed]; omega
      have hob := own_block HR.out.1
      have hrow := HR.out.1
      have hbs := HR.out.2.size
      have HB := Lib.hid HR.out.2
      go_upto_region 5 with (fail)
      first | (go_region_held3 (fun w' => w'.cell? ⟨bb, off + (4 * (j : Int)).toNat, none⟩ = some (octV x0) ∧ w'.cell? ⟨bb, off + (4 * (j : Int) + 1).toNat, none⟩ = some (octV x1) ∧ w'.cell? ⟨bb, off + (4 * (j : Int) + 2).toNat, none⟩ = some (octV x2) ∧ w'.cell? ⟨bb, off + (4 * (j : Int) + 3).toNat, none⟩ = some (octV x3)) (first | exact ⟨by assumption, by assumption, by assumption, by assumption⟩ | go_keep)
        (first | (refine step_append_lies _ rfl (.tmp 23) (.tmp 57) 69 rfl w.heap.size 68 i0 (.int .u32 0) 1 4 Tryd.underlying69 hi hz0 hz1 hz2 rfl (by decide) _ _ _ rfl (hrow.drew.alloc _) ⟨wr.heap.size, 0, none⟩ 1 1 [_] rfl rfl (cells_new _ _ _) (by simp [Value.oneCell']) (by decide) (by unfold maxLen; omega) (by omega) (by simp; omega) _ rfl ?_; intro v' cap' w1 hown' hgrow _ _; have hbw : Below w.heap.size w w1 := ((HB.out.drew.alloc hbs _).grown hgrow (by simp; omega) hob); have K := Lib.hid (And.intro hown' hbw); have n0 := (hbw.cell (p := ⟨bb, off + (4 * (j : Int)).toNat, none⟩) hl2).trans HC.out.1; have n1 := (hbw.cell (p := ⟨bb, off + (4 * (j : Int) + 1).toNat, none⟩) hl2).trans HC.out.2.1; have n2 := (hbw.cell (p := ⟨bb, off + (4 * (j : Int) + 2).toNat, none⟩) hl2).trans HC.out.2.2.1; have n3 := (hbw.cell (p := ⟨bb, off + (4 * (j : Int) + 3).toNat, none⟩) hl2).trans HC.out.2.2.2; clear hown' hgrow hbw))) | fail
      clear c0 c1 c2 c3 d0 d1 d2 d3 HC hrow hob hbs HB
      go_wp2_with fail
      go_roundw
      case rel =>
        refine ⟨j + 1, by omega, by go_num, own_is K.out.1 rfl ?_, K.out.2⟩
        rw [List.range_succ, List.map_append, List.map_append, List.map_singleton, List.map_singleton, HW.out.1]
      case measure => simp [intOf]; omega
    · obtain rfl : j = 16 := by omega
      have HR := Lib.hid (And.intro hrow hB)
      clear hrow hB hlt hj
      rw [show ((16 : Nat) : Int) = (16 : Int) from rfl]
      go_wp2_with fail
      go_loopw [5, 7] (fun v i wr => ∃ ws : List Nat, 16 ≤ ws.length ∧ ws.length ≤ 64 ∧ i = .int .i64 ws.length ∧ Sha.spread ws (64 - ws.length) = Sha.schedule C ∧ (∀ x ∈ ws, x < 2 ^ 32) ∧ wr.ownsRow w.heap.size 68 1 v ws.length (ws.map wordV) ∧ Below w.heap.size w wr) (fun _ i _ => 64 - (intOf i).toNat)
      case atStart =>
        refine ⟨(List.range 16).map (Sha.word C), by simp, by simp, rfl, rfl, ?_, own_is HR.out.1 (by simp) rfl, HR.out.2⟩
        intro x hx
        obtain ⟨i, _, rfl⟩ := List.mem_map.1 hx
        exact word_lt HBY.out i
      case round =>
        obtain ⟨ws, hl0, hl1, rfl, hsp, hw, hrow, hB⟩ := hrel
        clear HR
        by_cases hlt : ws.length < 64
        · have h16 : ws.length - 16 < ws.length := by omega
          have h15 : ws.length - 15 < ws.length := by omega
          have h7 : ws.length - 7 < ws.length := by omega
          have h2 : ws.length - 2 < ws.length := by omega
          have HN := Lib.hid (show Sha.next ws = (ws[ws.length - 16] + Sha.sig0 ws[ws.length - 15] + ws[ws.length - 7] + Sha.sig1 ws[ws.length - 2]) % 4294967296 by
            simp only [Sha.next, List.getD, List.getElem?_eq_getElem h16, List.getElem?_eq_getElem h15, List.getElem?_eq_getElem h7, List.getElem?_eq_getElem h2, Option.getD_some])
          obtain ⟨gw, cw, rfl, hgw, hgl⟩ := own_slice hrow (by omega)
          have k16 := own_at hrow (map_at (f := wordV) h16)
          have k15 := own_at hrow (map_at (f := wordV) h15)
          have k7 := own_at hrow (map_at (f := wordV) h7)
          have k2 := own_at hrow (map_at (f := wordV) h2)
          have w16 := hw _ (List.getElem_mem h16)
          have w15 := hw _ (List.getElem_mem h15)
          have w7 := hw _ (List.getElem_mem h7)
          have w2 := hw _ (List.getElem_mem h2)
          have KEEP := Lib.hid (And.intro hsp (And.intro hw (And.intro hrow hB)))
          clear hsp hw hrow hB
          generalize ws[ws.length - 16] = x16 at *
          generalize ws[ws.length - 15] = x15 at *
          generalize ws[ws.length - 7] = x7 at *
          generalize ws[ws.length - 2] = x2 at *
          have f16 : ((ws.length : Nat) : Int) - 16 = ((ws.length - 16 : Nat) : Int) := by omega
          have g16 : ws.length - 16 < ws.length := by omega
          have e16 : (ws.length - 16) + 16 = ws.length := by omega
          generalize ws.length - 16 = a16 at *
          have gi16 : ((a16 : Nat) : Int) < ws.length := by omega
          have wr16 : IntKind.i64.wrap ((a16 : Nat) : Int) = (a16 : Int) := by simp [IntKind.wrap, IntKind.bits, IntKind.signed]; omega
          clear h16 e16
          have f15 : ((ws.length : Nat) : Int) - 15 = ((ws.length - 15 : Nat) : Int) := by omega
          have g15 : ws.length - 15 < ws.length := by omega
          have e15 : (ws.length - 15) + 15 = ws.length := by omega
          generalize ws.length - 15 = a15 at *
          have gi15 : ((a15 : Nat) : Int) < ws.length := by omega
          have wr15 : IntKind.i64.wrap ((a15 : Nat) : Int) = (a15 : Int) := by simp [IntKind.wrap, IntKind.bits, IntKind.signed]; omega
          clear h15 e15
          have f7 : ((ws.length : Nat) : Int) - 7 = ((ws.length - 7 : Nat) : Int) := by omega
          have g7 : ws.length - 7 < ws.length := by omega
          have e7 : (ws.length - 7) + 7 = ws.length := by omega
          generalize ws.length - 7 = a7 at *
          have gi7 : ((a7 : Nat) : Int) < ws.length := by omega
          have wr7 : IntKind.i64.wrap ((a7 : Nat) : Int) = (a7 : Int) := by simp [IntKind.wrap, IntKind.bits, IntKind.signed]; omega
          clear h7 e7
          have f2 : ((ws.length : Nat) : Int) - 2 = ((ws.length - 2 : Nat) : Int) := by omega
          have g2 : ws.length - 2 < ws.length := by omega
          have e2 : (ws.length - 2) + 2 = ws.length := by omega
          generalize ws.length - 2 = a2 at *
          have gi2 : ((a2 : Nat) : Int) < ws.length := by omega
          have wr2 : IntKind.i64.wrap ((a2 : Nat) : Int) = (a2 : Int) := by simp [IntKind.wrap, IntKind.bits, IntKind.signed]; omega
          clear h2 e2
          have s0 := Lib.hid (sig0_bits w15)
          have s1 := Lib.hid (sig1_bits w2)
          have C7 := Lib.hid (fun W => refRot_7 x15 W w15)
          have C18 := Lib.hid (fun W => refRot_18 x15 W w15)
          have C17 := Lib.hid (fun W => refRot_17 x2 W w2)
          have C19 := Lib.hid (fun W => refRot_19 x2 W w2)
          go_upto_region 9 with (fail)
          refine wp_region_kin (by kernel_rfl) (by kernel_rfl) wr.heap.size 0 (by simp) (fun hk => ?_)
          repeat (go_big_quiet_step (first | (go_at_call 65; first | with_reducible exact Calls.kin (C7.out _) | with_reducible exact Calls.kin (C18.out _))))
          refine wpQuiet_nil ?_
          clear hk
          intro wa hb
          rw [s0.out.1]
          have HK1 := Lib.hid hb
          replace k16 := (hb.cell (p := ⟨gw, a16, none⟩) hgl).trans k16
          replace k7 := (hb.cell (p := ⟨gw, a7, none⟩) hgl).trans k7
          replace k2 := (hb.cell (p := ⟨gw, a2, none⟩) hgl).trans k2
          replace hgl := Nat.lt_of_lt_of_le hgl hb.size
          clear hb k15 C7 C18
          have v0 := s0.out.2
          clear s0
          generalize Sha.sig0 x15 = y0 at *
          go_upto_region 10 with (fail)
          refine wp_region_kin (by kernel_rfl) (by kernel_rfl) wa.heap.size 0 (by simp) (fun hk => ?_)
          repeat (go_big_quiet_step (first | (go_at_call 65; first | with_reducible exact Calls.kin (C17.out _) | with_reducible exact Calls.kin (C19.out _))))
          refine wpQuiet_nil ?_
          clear hk
          intro wb hb
          rw [s1.out.1]
          replace HK1 := Lib.hid (Below.andThen HK1.out hb)
          replace k16 := (hb.cell (p := ⟨gw, a16, none⟩) hgl).trans k16
          replace k7 := (hb.cell (p := ⟨gw, a7, none⟩) hgl).trans k7
          replace hgl := Nat.lt_of_lt_of_le hgl hb.size
          clear hb k2 C17 C19
          have v1 := s1.out.2
          clear s1
          generalize Sha.sig1 x2 = y1 at *
          have HV := Lib.hid (show IntKind.u32.wrap (IntKind.u32.wrap (IntKind.u32.wrap ((x16 : Int) + (y0 : Int)) + (x7 : Int)) + (y1 : Int)) = ((Sha.next ws : Nat) : Int) by rw [wrap_sum4, HN.out])
          have hrow := own_next KEEP.out.2.2.1 HK1.out
          have hob := own_block hrow
          have HB := Lib.hid (Below.andThen KEEP.out.2.2.2 HK1.out)
          have hbs := HB.out.size
          have pl0 : ws.length + 1 ≤ 64 := by omega
          have k16' : wb.drew.cell? ⟨gw, a16, none⟩ = some (wordV x16) := k16
          have k7' : wb.drew.cell? ⟨gw, a7, none⟩ = some (wordV x7) := k7
          clear HN HK1
          go_upto_region 11 with (fail)
          go_region_law (first | (refine step_append_lies _ rfl (.tmp 103) (.tmp 119) 69 rfl w.heap.size 68 i0 (.int .u32 0) 1 4 Tryd.underlying69 hi hz0 hz1 hz2 rfl (by decide) _ _ _ rfl (hrow.drew.alloc _) ⟨wb.heap.size, 0, none⟩ 1 1 [_] rfl rfl (cells_new _ _ _) (by simp [Value.oneCell']) (by decide) (by unfold maxLen; omega) (by omega) (by simp; omega) _ rfl ?_; intro v' cap' w1 hown' hgrow _ _; have hbw : Below w.heap.size w w1 := ((HB.out.drew.alloc hbs _).grown hgrow (by simp; omega) hob); have K := Lib.hid (And.intro hown' hbw); clear hown' hgrow hbw))
          all_goals (
            go_simp
            go_wp2_with fail
            go_roundw
            (case rel =>
              have hn32 : Sha.next ws < 2 ^ 32 := Nat.mod_lt _ (by decide)
              refine ⟨ws ++ [Sha.next ws], by simp; omega, by simp; omega, by simp, ?_, ?_, own_is K.out.1 (by simp) ?_, K.out.2⟩
              · rw [← KEEP.out.1]
                have e : 64 - ws.length = (64 - (ws ++ [Sha.next ws]).length) + 1 := by simp; omega
                rw [e]
                rfl
              · intro x hx
                rcases List.mem_append.1 hx with hx | hx
                · exact KEEP.out.2.1 x hx
                · rw [List.mem_singleton.1 hx]; exact hn32
              · rw [HV.out, List.map_append]
                rfl)
            (case measure => simp [intOf]; omega))
        · obtain h64 : ws.length = 64 := by omega
          have e : ws = Sha.schedule C := by rw [← hsp, h64]; rfl
          obtain ⟨gw, cw, rfl, hgw, hgl⟩ := own_slice hrow (by omega)
          have HS := Lib.hid (And.intro e h64)
          have HWL := Lib.hid hw
          have HR := Lib.hid (And.intro hrow hB)
          have HKc := Lib.hid (fun W => refConst_any W)
          rw [h64]
          clear hsp hw hrow hB e hlt hl0 hl1 h64
          go_upto_region 14 with (go_at_call 66; with_reducible refine Calls.mono (HKc.out _) ?_; rintro e wk ⟨rfl, hk, hbk2⟩)
          have hrowk := own_next HR.out.1 hbk2
          have hBk := Below.andThen HR.out.2 hbk2
          have hhk : ∀ j u, (stC s)[j]? = some u → wk.cell? (Addr.add ⟨hbk, 0, none⟩ j) = some u := fun j u hu => by
            have e1 : Addr.add ⟨hbk, 0, none⟩ j = ⟨hbk, j, none⟩ := by unfold Addr.add; split <;> simp_all
            rw [e1]
            exact (hBk.cell (p := ⟨hbk, j, none⟩) hl).trans (HH.out j u hu)
          have hkl := hk.lt
          have hgk : gw < wk.heap.size := Nat.lt_of_lt_of_le hgl hbk2.size
          obtain ⟨kb, hkb⟩ : ∃ b, b = wr.heap.size := ⟨_, rfl⟩
          rw [← hkb] at hk hkl
          rw [← hkb]
          have hKB := Lib.hid hkb
          have hbase := hBk.size
          have HK := Lib.hid (And.intro hrowk (And.intro hBk hk))
          clear hkb hk hbk2 hrowk hBk
          go_upto_region 15 with (at_builtin; refine wpList_append_own _ rfl _ _ 69 rfl w.heap.size 68 i0 (.int .u32 0) 1 4 Tryd.underlying69 hi hz0 hz1 hz2 rfl (by decide) _ 0 [] rfl (World.ownsRow_nil _ _ _ _) ⟨hbk, 0, none⟩ 8 hcap (stC s) rfl rfl hhk (by simp [stC, Sha.St.list, Value.oneCell']) (by decide) (by decide) hbase ?_; intro v' wa hown' hgrow _; have hba : Below wk.heap.size wk wa := (Below.refl _ _).grown hgrow (Nat.le_refl _) (fun k h => by cases h); have K := Lib.hid (And.intro hown' hba); clear hown' hgrow hba)
          obtain ⟨g0, c0, rfl, hg0, hgl0⟩ := own_slice (own_is K.out.1 (m := 8) (ys := stC s) rfl (List.nil_append _)) (by omega)
          have HA := Lib.hid (show (∀ j u, (stC s)[j]? = some u → wa.cell? ⟨g0, j, none⟩ = some u) ∧ (∀ j u, (ws.map wordV)[j]? = some u → wa.cell? ⟨gw, j, none⟩ = some u) ∧ Row wa kb 68 (Sha.K.map wordV) ∧ Below w.heap.size w wa ∧ gw < wa.heap.size ∧ kb < wa.heap.size ∧ (∀ j u, (stC s)[j]? = some u → wa.cell? ⟨hbk, j, none⟩ = some u) ∧ hbk < wa.heap.size from by
            have hb2 := K.out.2
            have hB := Below.andThen HK.out.2.1 hb2
            exact ⟨fun j u hu => own_at K.out.1 (by simpa using hu), fun j u hu => own_at (own_next HK.out.1 hb2) hu, HK.out.2.2.next hb2, hB, Nat.lt_of_lt_of_le hgk hb2.size, Nat.lt_of_lt_of_le hkl hb2.size, fun j u hu => (hB.cell (p := ⟨hbk, j, none⟩) hl).trans (HH.out j u hu), Nat.lt_of_lt_of_le hl hB.size⟩)
          have HC11 := Lib.hid (And.intro hgl0 hKB)
          clear HK K HR
          go_wp2_with fail
          go_loopw [11, 12] (fun v i wq => ∃ (j : Nat) (t : Sha.St) (g cp : Nat), j ≤ 64 ∧ i = .int .i64 j ∧ v = .slice (some ⟨g, 0, none⟩) 8 cp ∧ g < wq.heap.size ∧ (∀ q u, (stC t)[q]? = some u → wq.cell? ⟨g, q, none⟩ = some u) ∧ t.Ok ∧ t = Sha.rounds s ((Sha.K.zip ws).take j) ∧ Below wa.heap.size wa wq) (fun _ i _ => 64 - (intOf i).toNat)
          case atStart => exact ⟨0, s, g0, c0, by omega, rfl, rfl, hgl0, HA.out.1, HO.out, rfl, Below.refl _ _⟩
          case round =>
            obtain ⟨j, ⟨a, b, c, d, e, f, h, z⟩, g, cp, hj, rfl, rfl, hg, hcell, hok, hr, hBq⟩ := hrel
            obtain ⟨x1, x2, x3, x4, x5, x6, x7, x8⟩ := hok.parts
            have HTT := Lib.hid hok
            dsimp only at x1 x2 x3 x4 x5 x6 x7 x8
            clear hok
            by_cases hlt : j < 64
            · have hjl : j < ws.length := by rw [HS.out.2]; exact hlt
              have HRR := Lib.hid (show Sha.rounds s ((Sha.K.zip ws).take (j + 1)) = Sha.round ⟨a, b, c, d, e, f, h, z⟩ (Sha.K.getD j 0) ws[j] by
                rw [zip_at ws HS.out.2 j hlt, rounds_more, ← hr])
              have kl : Sha.K.length = 64 := rfl
              have hjk : j < Sha.K.length := by rw [kl]; exact hlt
              have kc := (hBq.cell (p := ⟨kb, j, none⟩) HA.out.2.2.2.2.2.1).trans ((HA.out.2.2.1.cell j).trans (map_at (f := wordV) hjk))
              have wc := (hBq.cell (p := ⟨gw, j, none⟩) HA.out.2.2.2.2.1).trans (HA.out.2.1 j _ (map_at (f := wordV) hjl))
              have hKe : Sha.K.getD j 0 = Sha.K[j] := by rw [List.getD_eq_getElem?_getD, List.getElem?_eq_getElem hjk]; rfl
              rw [hKe] at HRR
              have HR2 := Lib.hid (round_ok HTT.out Sha.K[j] ws[j])
              have k0 := hcell 0 (wordV a) rfl
              have k1 := hcell 1 (wordV b) rfl
              have k2 := hcell 2 (wordV c) rfl
              have k3 := hcell 3 (wordV d) rfl
              have k4 := hcell 4 (wordV e) rfl
              have k5 := hcell 5 (wordV f) rfl
              have k6 := hcell 6 (wordV h) rfl
              have k7 := hcell 7 (wordV z) rfl
              have kg : kb < wr.heap.size := Nat.lt_of_lt_of_le HA.out.2.2.2.2.2.1 hBq.size
              have wg : gw < wr.heap.size := Nat.lt_of_lt_of_le HA.out.2.2.2.2.1 hBq.size
              have HB := Lib.hid hBq
              have C6 := Lib.hid (fun W => refRot_6 e W x5)
              have C11 := Lib.hid (fun W => refRot_11 e W x5)
              have C25 := Lib.hid (fun W => refRot_25 e W x5)
              have C2 := Lib.hid (fun W => refRot_2 a W x1)
              have C13 := Lib.hid (fun W => refRot_13 a W x1)
              have C22 := Lib.hid (fun W => refRot_22 a W x1)
              have E1 := Lib.hid (t1_mod a b c d e f h z Sha.K[j] ws[j])
              have E2 := Lib.hid (t2_mod a b c d e f h z)
              have CHI := Lib.hid (ch_if x5 x6 x7)
              have MJI := Lib.hid (maj_eq x1 x2 x3).1
              have BB1 := Lib.hid (big1_bits x5)
              have BB0 := Lib.hid (big0_bits x1)
              clear hKe kl hr hcell hBq
              generalize Sha.K[j] = kk at *
              generalize ws[j] = vv at *
              clear hjk hjl
              go_upto_region 20 with (fail)
              refine wp_region_kin (by kernel_rfl) (by kernel_rfl) wr.heap.size 0 (by simp) (fun hk => ?_)
              repeat (go_big_quiet_step (first | (go_at_call 65; first | with_reducible exact Calls.kin (C6.out _) | with_reducible exact Calls.kin (C11.out _) | with_reducible exact Calls.kin (C25.out _))))
              refine wpQuiet_nil ?_
              clear hk
              intro w2 hb
              rw [BB1.out, CHI.out, E1.out]
              have HB2 := Lib.hid hb
              have l1 := (hb.cell (p := ⟨g, 1, none⟩) hg).trans k1
              have l2 := (hb.cell (p := ⟨g, 2, none⟩) hg).trans k2
              have l3 := (hb.cell (p := ⟨g, 3, none⟩) hg).trans k3
              have l5 := (hb.cell (p := ⟨g, 5, none⟩) hg).trans k5
              have l6 := (hb.cell (p := ⟨g, 6, none⟩) hg).trans k6
              have hg2 := Nat.lt_of_lt_of_le hg hb.size
              clear hb k0 k1 k2 k3 k4 k5 k6 k7 kc wc hg kg wg C6 C11 C25 E1 CHI BB1
              have S1 : Sha.t1 ⟨a, b, c, d, e, f, h, z⟩ kk vv < 2 ^ 32 := Nat.mod_lt _ (by decide)
              have S2 : Sha.t2 ⟨a, b, c, d, e, f, h, z⟩ < 2 ^ 32 := Nat.mod_lt _ (by decide)
              have HQ := Lib.hid (show Sha.round ⟨a, b, c, d, e, f, h, z⟩ kk vv = ⟨(Sha.t1 ⟨a, b, c, d, e, f, h, z⟩ kk vv + Sha.t2 ⟨a, b, c, d, e, f, h, z⟩) % 4294967296, a, b, c, (d + Sha.t1 ⟨a, b, c, d, e, f, h, z⟩ kk vv) % 4294967296, e, f, h⟩ from rfl)
              generalize Sha.t1 ⟨a, b, c, d, e, f, h, z⟩ kk vv = y1 at *
              generalize Sha.t2 ⟨a, b, c, d, e, f, h, z⟩ = y2 at *
              go_upto_region 21 with (fail)
              refine wp_region_kin (by kernel_rfl) (by kernel_rfl) w2.heap.size 0 (by simp) (fun hk => ?_)
              repeat (go_big_quiet_step (first | (go_at_call 65; first | with_reducible exact Calls.kin (C2.out _) | with_reducible exact Calls.kin (C13.out _) | with_reducible exact Calls.kin (C22.out _))))
              refine wpQuiet_nil ?_
              clear hk
              intro w3 hb
              rw [BB0.out, MJI.out, E2.out]
              replace HB2 := Lib.hid (Below.andThen HB2.out hb)
              replace l1 := (hb.cell (p := ⟨g, 1, none⟩) hg2).trans l1
              replace l2 := (hb.cell (p := ⟨g, 2, none⟩) hg2).trans l2
              replace l3 := (hb.cell (p := ⟨g, 3, none⟩) hg2).trans l3
              replace l5 := (hb.cell (p := ⟨g, 5, none⟩) hg2).trans l5
              replace l6 := (hb.cell (p := ⟨g, 6, none⟩) hg2).trans l6
              replace hg2 := Nat.lt_of_lt_of_le hg2 hb.size
              clear hb C2 C13 C22 E2 MJI BB0
              go_upto_region 22 with (fail)
              refine wp_region_kin_tail 22 (by kernel_rfl) (by kernel_rfl) w3.heap.size 0 (by simp) (fun hk => ?_)
              simp only [List.take_succ_cons, List.take_zero, List.drop_succ_cons, List.drop_zero]
              repeat (go_big_quiet_step (fail))
              refine wpQuiet_nil ?_
              clear hk
              intro w4 hb
              have HB4 := Lib.hid (Below.andThen HB2.out hb)
              clear hb l1 l2 l3 l5 l6 hg2
              go_wp2_with fail
              go_roundw
              case rel =>
                have HN := Row.new w4 68 (stC (Sha.round ⟨a, b, c, d, e, f, h, z⟩ kk vv))
                refine ⟨j + 1, Sha.round ⟨a, b, c, d, e, f, h, z⟩ kk vv, w4.heap.size, 8, by omega, by go_num, rfl, by simp, ?_, HR2.out, HRR.out.symm, (Below.andThen HB.out HB4.out).alloc (Below.andThen HB.out HB4.out).size _⟩
                intro q u hu
                have eA : Value.int .u32 (((y1 : Int) + (y2 : Int)) % 4294967296) = wordV ((y1 + y2) % 4294967296) := congrArg (Value.int .u32) (by omega)
                have eB : Value.int .u32 (((d : Int) + (y1 : Int)) % 4294967296) = wordV ((d + y1) % 4294967296) := congrArg (Value.int .u32) (by omega)
                rw [← hu, ← HN.cell q, HQ.out]
                simp [stC, Sha.St.list, eA, eB]
              case measure => simp [intOf]; omega
            · obtain rfl : j = 64 := by omega
              have EM := Lib.hid (show Sha.plus s ⟨a, b, c, d, e, f, h, z⟩ = Sha.mix s (Sha.schedule C) by
                rw [← HS.out.1]
                unfold Sha.mix
                rw [hr, List.take_of_length_le (by rw [List.length_zip, HS.out.2]; exact Nat.min_le_right _ _)])
              have hw8 : ∀ x ∈ s.list, x < 2 ^ 32 := HO.out
              have hBw := Below.andThen HA.out.2.2.2.1 hBq
              have HCC := Lib.hid (fun (W : World) (hW : Below wr.heap.size wr W) => (⟨fun q u hu => (hW.cell (p := ⟨hbk, q, none⟩) (Nat.lt_of_lt_of_le HA.out.2.2.2.2.2.2.2 hBq.size)).trans ((hBq.cell (p := ⟨hbk, q, none⟩) HA.out.2.2.2.2.2.2.2).trans (HA.out.2.2.2.2.2.2.1 q u hu)), fun q u hu => (hW.cell (p := ⟨g, q, none⟩) hg).trans (hcell q u hu), Nat.lt_of_lt_of_le hl (Below.andThen hBw hW).size, Nat.lt_of_lt_of_le hg hW.size, Below.andThen hBw hW⟩ : (∀ q u, (stC s)[q]? = some u → W.cell? ⟨hbk, q, none⟩ = some u) ∧ (∀ q u, (stC ⟨a, b, c, d, e, f, h, z⟩)[q]? = some u → W.cell? ⟨g, q, none⟩ = some u) ∧ hbk < W.heap.size ∧ g < W.heap.size ∧ Below w.heap.size w W))
              obtain ⟨B0, hB0⟩ : ∃ b, b = wr.heap.size := ⟨_, rfl⟩
              have hBL : B0 ≤ wr.heap.size := by rw [hB0]; exact Nat.le_refl _
              have hB1 : w.heap.size ≤ B0 := by rw [hB0]; exact hBw.size
              rw [← hB0] at HCC
              have HB0 := Lib.hid (show Below B0 wr wr by rw [hB0]; exact Below.refl _ _)
              have HOK := Lib.hid HTT.out
              generalize hT : (⟨a, b, c, d, e, f, h, z⟩ : Sha.St) = T at *
              clear hr hcell hBq hBw hB0 HTT HA HS HWL HC11 hw8 hT x1 x2 x3 x4 x5 x6 x7 x8 hlt hj hg hbase hhk hkl hgk hgl0 hgl hg0
              rw [show ((64 : Nat) : Int) = (64 : Int) from rfl]
              go_wp2_with fail
              go_loopw [17, 18] (fun v i wz => ∃ j : Nat, j ≤ 8 ∧ i = .int .i64 j ∧ wz.ownsRow B0 68 1 v j ((stC (Sha.plus s T)).take j) ∧ Below B0 wr wz) (fun _ i _ => 8 - (intOf i).toNat)
              case atStart => exact ⟨0, by omega, rfl, World.ownsRow_nil _ _ _ _, HB0.out⟩
              case round =>
                clear HB0
                obtain ⟨j, hj, rfl, hrow, hB⟩ := hrel
                by_cases hlt : j < 8
                · obtain ⟨sj, hsj⟩ : ∃ x, s.list[j]? = some x := ⟨_, List.getElem?_eq_getElem hlt⟩
                  obtain ⟨tj, htj⟩ : ∃ x, T.list[j]? = some x := ⟨_, List.getElem?_eq_getElem hlt⟩
                  have HSP := Lib.hid (stC_plus s T j sj tj hsj htj)
                  have G0 := Lib.hid (stC_at s j sj hsj)
                  have G1 := Lib.hid (stC_at T j tj htj)
                  have c0 := (HCC.out _ hB).1 j _ G0.out
                  have c1 := (HCC.out _ hB).2.1 j _ G1.out
                  clear hsj htj
                  have hob := own_block hrow
                  have HB := Lib.hid hB
                  have hbs : B0 ≤ wr.heap.size := Nat.le_trans hBL hB.size
                  clear hB
                  go_upto_region 27 with (fail)
                  (go_region_held3 (fun w' => w'.cell? ⟨hbk, j, none⟩ = some (wordV sj) ∧ w'.cell? ⟨g, j, none⟩ = some (wordV tj)) (first | exact ⟨by assumption, by assumption⟩ | go_keep)
                    (first | (refine step_append_lies _ rfl (.tmp 225) (.tmp 235) 69 rfl B0 68 i0 (.int .u32 0) 1 4 Tryd.underlying69 hi hz0 hz1 hz2 rfl (by decide) _ _ _ rfl (hrow.drew.alloc _) ⟨wr.heap.size, 0, none⟩ 1 1 [_] rfl rfl (cells_new _ _ _) (by simp [Value.oneCell']) (by decide) (by unfold maxLen; omega) (by omega) (by simp; omega) _ rfl ?_; intro v' cap' w1 hown' hgrow _ _; have hbw := ((HB.out.drew.alloc hbs _).grown hgrow (by simp; omega) hob); have K := Lib.hid (And.intro hown' hbw); have n0 := (HCC.out _ hbw).1 j _ G0.out; have n1 := (HCC.out _ hbw).2.1 j _ G1.out; clear hown' hgrow hbw)))
                  clear c0 c1
                  go_wp2_with fail
                  go_roundw
                  case rel => exact ⟨j + 1, by omega, by go_num, own_is K.out.1 rfl HSP.out.symm, K.out.2⟩
                  case measure => simp [intOf]; omega
                · obtain rfl : j = 8 := by omega
                  have HF := Lib.hid (And.intro (HCC.out _ hB).2.2.2.2 (own_weaken hrow hB1))
                  rw [List.take_of_length_le (by rw [stC_len]; exact Nat.le_refl _), EM.out] at HF
                  clear hrow hB hlt hj
                  go_wp2_with fail
                  go_ret
                  exact ⟨_, rfl, HF.out⟩
end Go.Proofs.YtnhlhoijajhcjaaDoor
