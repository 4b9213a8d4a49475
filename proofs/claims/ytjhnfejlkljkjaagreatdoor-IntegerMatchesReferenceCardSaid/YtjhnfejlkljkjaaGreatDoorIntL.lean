/- Natural numbers in groups: roots. -/
import Derived.Test.YtjhnfejlkljkjaaGreatDoorIntK
namespace Go.Proofs.YtjhnfejlkljkjaaGreatDoor
open Go.RowKit

abbrev rootL (i d : Nat) (qs : List Nat) : List Nat := List.replicate i 0 ++ d :: qs
theorem rootL_len (i d : Nat) (qs : List Nat) : (rootL i d qs).length = i + 1 + qs.length := by simp [rootL]; omega
theorem rootL_lt {i d : Nat} {qs : List Nat} (hd : d < 10000) (hq : ∀ x ∈ qs, x < 10000) : ∀ x ∈ rootL i d qs, x < 10000 := by
  intro x hx
  rcases List.mem_append.1 hx with h | h
  · rw [List.eq_of_mem_replicate h]; decide
  · rcases List.mem_cons.1 h with rfl | h
    · exact hd
    · exact hq x h
theorem rootL_nv (i d : Nat) (qs : List Nat) : In.nv 10000 (rootL i d qs) = In.nv 10000 qs * 10000 ^ (i + 1) + d * 10000 ^ i := by
  rw [In.nv_append, In.nv_zeros, List.length_replicate, In.nv, Nat.zero_add, Nat.pow_succ, Nat.mul_add, Nat.mul_comm (10000 ^ i) d, Nat.add_comm]
  congr 1
  rw [Nat.mul_comm (10000 ^ i), Nat.mul_comm 10000, Nat.mul_assoc, Nat.mul_comm 10000]
theorem rootL_set (i d d0 : Nat) (qs : List Nat) : ((rootL i d0 qs).map natV).set i (natV d) = (rootL i d qs).map natV := by
  rw [← List.map_set]
  congr 1
  rw [List.set_append_right _ _ (by simp)]
  simp
theorem NSl.own {w : World} {v : Value} {n : Nat} (h : NSl w v n) : ∀ b off, v.ownBlock = some b → v.ownBlock = some off → b = off := fun _ _ h1 h2 => Option.some.inj (h1.symm.trans h2)
theorem NSl.lt {w : World} {o : Option Addr} {L c n b off : Nat} (h : NSl w (.slice o L c) n) (e : o = some ⟨b, off, none⟩) (hne : In.gs n ≠ []) : b < w.heap.size := by
  obtain ⟨o', c', e', h1, h2, h3, h4⟩ := h.ex
  cases e'
  rcases h4 with h4 | ⟨p, q, e2, hp, _⟩
  · exact absurd h4 hne
  · rw [e] at e2; cases e2; exact hp
set_option maxRecDepth 100000 in
set_option maxHeartbeats 2000000 in
theorem root1_any (o : Option Addr) (La ca a d i m d0 bR bx bi ba : Nat) (qs : List Nat) (w : World) (hn : NSl w (.slice o La ca) a) (hR : Row w bR 3 ((rootL i d0 qs).map natV)) (hx : Row w bx 45 [.slice (some ⟨bR, 0, none⟩) m m])
    (hi : Row w bi 3 [natV i]) (ha : Row w ba 45 [.slice o La ca]) (hm : (rootL i d qs).length = m) (hm2 : m ≤ 400) (hd : d < 10000) (hq : ∀ x ∈ qs, x < 10000) (hne : bR ≠ bx ∧ bR ≠ bi ∧ bR ≠ ba)
    (hfar : ∀ b off, o = some ⟨b, off, none⟩ → In.gs a ≠ [] → b ≠ bR) (hla : (In.gs a).length ≤ 1000) :
    Calls Tryz.prog 66 (#[.int .i64 d] ++ #[.pointer (some ⟨bx, 0, none⟩), .pointer (some ⟨bi, 0, none⟩), .pointer (some ⟨ba, 0, none⟩)]) w fun e w' => e = .returned (.bool (decide (In.nv 10000 (rootL i d qs) * In.nv 10000 (rootL i d qs) ≤ a))) ∧ Below w.heap.size (w.setCell ⟨bR, i, none⟩ (natV d)) w' := by
  have him : i < m := by rw [← hm, rootL_len]; omega
  have hlen0 : (rootL i d0 qs).length = m := by rw [← hm, rootL_len, rootL_len]
  obtain ⟨wS, hS⟩ : ∃ x, x = w.setCell ⟨bR, i, none⟩ (natV d) := ⟨_, rfl⟩
  have hsz : wS.heap.size = w.heap.size := by rw [hS]; exact World.size_setCell _ _ _
  have F1 : NSl wS (.slice o La ca) a ∧ Row wS bR 3 ((rootL i d qs).map natV) ∧ Row wS bx 45 [.slice (some ⟨bR, 0, none⟩) m m] ∧ Row wS ba 45 [.slice o La ca] := by
    rw [hS]
    refine ⟨hn.far (fun b off e h0 => hfar b off e h0) _, ?_, hx.other (Ne.symm hne.1) _ _, ha.other (Ne.symm hne.2.2) _ _⟩
    have := hR.set i (natV d)
    rwa [rootL_set] at this
  have l1 : ((rootL i d qs).map natV).length = m := by simpa using hm
  have CT := Lib.hid (trim_any (some ⟨bR, 0, none⟩) m m (rootL i d qs) wS hm (rootL_lt hd hq) (Nat.le_refl _) (by omega) (fun h => by cases h) (row_sl F1.2.1))
  have c1 := (Row.cell hx 0).trans (show _ = some (.slice (some ⟨bR, 0, none⟩) m m) from rfl)
  have c2 := (Row.cell hi 0).trans (show _ = some (natV i) from rfl)
  have c3 := Row.frozen hR i
  have c4 : w.cell? ⟨bR, i, none⟩ = some (natV d0) := by
    rw [hR.cell, List.getElem?_map, List.getElem?_append_right (by simp)]
    simp
  have c5 := (Row.cell F1.2.2.1 0).trans (show _ = some (.slice (some ⟨bR, 0, none⟩) m m) from rfl)
  have c6 := (Row.cell F1.2.2.2 0).trans (show _ = some (.slice o La ca) from rfl)
  have lba := F1.2.2.2.lt
  have HS := Lib.hid (And.intro F1.1 (And.intro hS hsz))
  have hlT : (In.gs (In.nv 10000 (rootL i d qs))).length ≤ m := by
    refine In.gr_len_le (by decide) _ _ ?_
    have := In.nv_lt (B := 10000) (rootL i d qs) (rootL_lt hd hq)
    rwa [hm] at this
  generalize hT : In.nv 10000 (rootL i d qs) = T at *
  have HT := Lib.hid hlT
  have HCL := Lib.hid (cmpN_le (T * T) a)
  have hTT : (In.gs (T * T)).length ≤ 1000 := by
    have := gs_len_mul T T
    omega
  have HTT := Lib.hid hTT
  have HLA := Lib.hid hla
  clear hn hR hx hi ha F1 hfar hlen0 l1 hT hlT hm hTT hla
  go_enter Tryz.func66, Tryz.ntmps66
  go_upto_region 2 with (fail)
  rw [← hS]
  clear hS hsz c1 c2 c3 c4
  go_wp2_with fail
  refine Calls.mono CT.out ?_
  rintro e wa ⟨k, rfl, hk, hba⟩
  have c7 := (hba.cell (p := ⟨ba, 0, none⟩) lba).trans c6
  have HA := Lib.hid (And.intro hk hba)
  clear hk hba c5 c6
  go_upto_region 3 with (fail)
  have h00 : Below wa.heap.size wa wa.drew := (Below.refl _ _).drew
  have lbw := Nat.lt_of_lt_of_le lba HA.out.2.size
  have c8 : wa.drew.cell? ⟨ba, 0, none⟩ = some (.slice o La ca) := c7
  have CM := Lib.hid (times_any (.slice (some ⟨bR, 0, none⟩) k m) (.slice (some ⟨bR, 0, none⟩) k m) T T wa.drew (HA.out.1.next h00) (HA.out.1.next h00) (by have := HT.out; omega))
  first | (go_region_held3 (fun w' => w'.cell? ⟨ba, 0, none⟩ = some (.slice o La ca)) (first | assumption | go_keep) (first
    | (go_at_call 57; with_reducible refine Calls.mono CM.out ?_; rintro e wb ⟨r1, rfl, hn1, hb1⟩; have HB := Lib.hid (And.intro hn1 (Below.andThen h00 hb1)); have c9 := (HB.out.2.cell (p := ⟨ba, 0, none⟩) lbw).trans c7; clear hn1 hb1)
    | (go_at_call 55; with_reducible refine Calls.mono (compare_any r1 (.slice o La ca) (T * T) a _ HB.out.1 (HS.out.1.next (Below.andThen HA.out.2 HB.out.2)) HTT.out HLA.out) ?_; rintro e wc ⟨rfl, hb2⟩; have HC := Lib.hid (Below.andThen HB.out.2 hb2); have c10 := (HC.out.cell (p := ⟨ba, 0, none⟩) lbw).trans c7; clear hb2))) | fail
  go_wp2_with fail
  go_ret
  refine ⟨retv (congrArg Value.bool HCL.out), ?_⟩
  have h1 := Below.andThen HA.out.2 HC.out
  rw [HS.out.2.2] at h1
  rw [← HS.out.2.1]
  exact h1
end Go.Proofs.YtjhnfejlkljkjaaGreatDoor
