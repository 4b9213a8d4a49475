/- What the statements on disks share. -/
import Derived.Test.YtgmghfgcpjpigaaDiskL
import Derived.Test.YtgmghfgcpjpigaaLaid
import Derived.Deep.DeepCutAuto
namespace Go.Proofs.Ytgmghfgcpjpigaa
open Go.RowKit Go.ChangeShapes Go.WideShapes Go.ChangeAt
theorem own : ownKnob Try.prog.godebug = none := by kernel_rfl
theorem laidOut : laidOutB Try.prog = true := by kernel_rfl
/-- A world for the witness. -/
noncomputable def laidWorld (os : Os) : World := World.holding Try.prog os ⟨#[], #[], []⟩

theorem write_plain {s : DS} {n : Nat} (hg : s.Good n) (ho : s.off = false) (ha : s.after = 0) {o : Nat} {t : ByteArray} (hf : o + t.size ≤ n) :
    s.writeE o t = 0 ∧ s.writeS o t = { s with pend := s.pend ++ [(o, t)], vis := over s.vis o t.data.toList } := by
  have hw : within s.sure.length o t.size = true := (within_iff _ _ _).2 (by rw [hg.sure]; omega)
  constructor
  · simp [DS.writeE, ho, hw]
  · simp [DS.writeS, DS.writeOk, ho, hw, DS.spend, ha]
theorem sync_plain {s : DS} (ho : s.off = false) : s.powE = 0 ∧ s.syncS = { s with sure := s.vis, pend := [] } := by simp [DS.powE, DS.syncS, ho]
theorem read_plain {s : DS} {n : Nat} (hg : s.Good n) (ho : s.off = false) : s.readE 0 n = 0 ∧ s.readV 0 n = ⟨s.vis.toArray⟩ := by
  have hw : within s.sure.length 0 n = true := (within_iff _ _ _).2 (by rw [hg.sure]; omega)
  constructor
  · simp [DS.readE, ho, hw]
  · have e : s.vis.take n = s.vis := List.take_of_length_le (by rw [hg.vis]; exact Nat.le_refl _)
    simp [DS.readV, DS.readOk, ho, hw, e]

theorem Row.textAll {P : Program} {w : World} {b : Nat} {t : TypeId} {l : List UInt8} {n : Nat} (h : Row w b t (l.map byteV)) (hl : l.length = n) (src dst e : TypeId) (cap : Nat) (hs : P.underlying src = some (.slice e)) (he : P.underlying e = some (.int .u8)) (hd : P.underlying dst = some .string) :
    (convert src dst (.slice (some ⟨b, 0, none⟩) n cap)).run P w = .ok (.string ⟨l.toArray⟩) w := by
  have := Row.textAt (P := P) h src dst e 0 n cap (by omega) hs he hd
  have e1 : (l.drop 0).take n = l := by rw [List.drop_zero]; exact List.take_of_length_le (by omega)
  rwa [e1] at this
section
variable {W0 w w' : World} {F F' S : Nat → Prop} {D n b : Nat} {s s' : DS} {t : TypeId} {C : List Value}
theorem On.only (h : On W0 w F D n s) (hb : Only S w w') (hS : ∀ k, S k → ¬ F k) (hm : ∀ k, S k → W0.heap.size ≤ k) : On W0 w' F D n s := ⟨h.disk.only hb hS, h.mine, h.below.trans (hb.below h.below.size hm)⟩
/-- a block that is none of the disk's stays none of the disk's -/
theorem still {k : Nat} (hF : ∀ k, F' k → F k ∨ w.heap.size ≤ k) (hk : k < w.heap.size) (h : ¬ F k) : ¬ F' k := fun h' => (hF k h').elim h (by omega)
end
theorem infoInt : (Try.prog.info? 3).map (fun i => (i.zero, i.size, i.bytes)) = some (some (.int .i64 0), 1, 8) := by kernel_rfl
/-- numbers as cells -/
def intC (ks : List Int) : List Value := ks.map (Value.int .i64)
theorem intC_length (ks : List Int) : (intC ks).length = ks.length := by simp [intC]
/-- a slice of numbers that the call made -/
theorem keep_own {w : World} {base m : Nat} {v : Value} {ks : List Int} (h : w.ownsRow base 3 1 v m (intC ks)) :
    ks.length = m ∧ ∃ o cap, v = .slice o m cap ∧ ∀ i (hi : i < ks.length), ∃ a, o = some a ∧ w.cell? (a.add i) = some (.int .i64 ks[i]) ∧ base ≤ a.block := by
  have hl : ks.length = m := by have := h.1; rw [intC_length] at this; omega
  refine ⟨hl, ?_⟩
  have h' := h
  rcases h.2 with ⟨rfl, rfl⟩ | ⟨g, cap, cur, rfl, hb, _⟩
  · exact ⟨none, 0, rfl, fun i hi => absurd hi (by omega)⟩
  · refine ⟨_, cap, rfl, fun i hi => ⟨_, rfl, ?_, hb⟩⟩
    have := h'.cells (g := g) rfl i (.int .i64 ks[i]) (by simp [intC, hi])
    exact this
theorem crash_at (D n : Nat) (F : Nat → Prop) (s : DS) (o : Option Addr) (ks : List Int) (len cap : Nat) (torn : Int) (w : World) (hlen : ks.length = len) (h : Disk w F D n s) (hm : s.pend.length ≤ 1000000) (hl : ks.length ≤ 1000000)
    (hk : ∀ i (hi : i < ks.length), ∃ a, o = some a ∧ w.cell? (a.add i) = some (.int .i64 ks[i]) ∧ ¬ F a.block) (ht : -9223372036854775808 ≤ torn ∧ torn ≤ 9223372036854775807) :
    Calls Try.prog 25 #[at_ D, .slice o len cap, .int .i64 torn] w fun e w' => e = .returned (.int .i64 0) ∧ DStep w w' F D n (s.crashS ks torn) := by
  subst hlen
  exact crash_any D n F s o ks cap torn w h hm hl hk ht
def upK (k : Nat) : List Int := (List.range k).map Int.ofNat
theorem upK_length (k : Nat) : (upK k).length = k := by simp [upK]
theorem upK_more (k : Nat) : upK (k + 1) = upK k ++ [(k : Int)] := by simp [upK, List.range_succ]
theorem upK_all (k i : Nat) (hi : i < k) : (upK k).contains (i : Int) = true := by
  rw [List.contains_iff_mem]
  exact List.mem_map.2 ⟨i, List.mem_range.2 hi, rfl⟩
theorem intC_more (ks : List Int) (k : Int) : intC (ks ++ [k]) = intC ks ++ [.int .i64 k] := by simp [intC]
theorem Disk.not_type {w : World} {F : Nat → Prop} {D n : Nat} {s : DS} {g : Nat} {cur : Array Value} {t : TypeId} (h : Disk w F D n s) (hg : w.heap[g]? = some (.cells cur t (0, 0))) (h1 : t ≠ 65) (h2 : t ≠ 5) (h3 : t ≠ 69) : ¬ F g := by
  obtain ⟨G1, G2, pv, h, rfl⟩ := h
  have key : ∀ {b : Nat} {t' : TypeId} {C : List Value}, Row w b t' C → g = b → t = t' := by
    rintro b t' C hR rfl
    have := hR.symm.trans hg
    simp at this
    exact this.2.symm
  rintro (e | e | e | e)
  · exact h1 (key h.head e)
  · exact h2 (key h.sure e)
  · exact h2 (key h.vis e)
  · rcases h.pend.2 with ⟨rfl, _⟩ | ⟨g', cap', cur', rfl, _, h5, _⟩
    · cases e
    · simp only [Value.ownBlock, Option.some.injEq] at e
      subst e
      have := h5.symm.trans hg
      simp at this
      exact h3 this.2.symm
theorem own_not {w : World} {F : Nat → Prop} {D n b0 m : Nat} {s : DS} {v : Value} {xs : List Value} (h : w.ownsRow b0 3 1 v m xs) (hD : Disk w F D n s) : ∀ k, v.ownBlock = some k → ¬ F k := by
  intro k hk
  rcases h.2 with ⟨rfl, _⟩ | ⟨g, cap, cur, rfl, _, h5, _⟩
  · cases hk
  · simp only [Value.ownBlock, Option.some.injEq] at hk
    subst hk
    exact hD.not_type h5 (by decide) (by decide) (by decide)
theorem own_ne {w : World} {b0 m b : Nat} {t : TypeId} {C : List Value} {v : Value} {xs : List Value} (h : w.ownsRow b0 3 1 v m xs) (hR : Row w b t C) (ht : t ≠ 3) : v.ownBlock ≠ some b := by
  intro hk
  rcases h.2 with ⟨rfl, _⟩ | ⟨g, cap, cur, rfl, _, h5, _⟩
  · cases hk
  · simp only [Value.ownBlock, Option.some.injEq] at hk
    subst hk
    have := hR.symm.trans h5
    simp at this
    exact ht this.2
theorem own_only {w w' : World} {S : Nat → Prop} {b0 m : Nat} {e : TypeId} {v : Value} {xs : List Value} (h : w.ownsRow b0 e 1 v m xs) (hO : Only S w w') (hS : ∀ k, v.ownBlock = some k → ¬ S k) : w'.ownsRow b0 e 1 v m xs :=
  ownsRow_same h (fun g hg => hO.block g (h.lt g hg).2 (hS g hg))
theorem own_next {w w' : World} {b0 m : Nat} {e : TypeId} {v : Value} {xs : List Value} (h : w.ownsRow b0 e 1 v m xs) (hb : Below w.heap.size w w') : w'.ownsRow b0 e 1 v m xs :=
  ownsRow_same h (fun g hg => hb.block g (h.lt g hg).2)
theorem grown_only {w w' : World} {v : Value} (o : Obj) (hg : (w.alloc o).grownBy w' v.ownBlock) : Only (fun j => v.ownBlock = some j) w w' := ((Only.refl _ w).alloc o).grown hg (fun _ h => .inl h)
theorem write_cut {s : DS} {n : Nat} (hg : s.Good n) (ho : s.off = false) (ha : 1 ≤ s.after) {o : Nat} {t : ByteArray} (hf : o + t.size ≤ n) :
    s.writeE o t = 0 ∧ (s.writeS o t).vis = over s.vis o t.data.toList ∧ (s.writeS o t).pend.length = s.pend.length + 1 ∧ (s.writeS o t).off = decide (s.after = 1) ∧ (s.writeS o t).after = s.after - 1 := by
  have hw : within s.sure.length o t.size = true := (within_iff _ _ _).2 (by rw [hg.sure]; omega)
  have e : s.writeS o t = DS.spend { s with pend := s.pend ++ [(o, t)], vis := over s.vis o t.data.toList } := by simp [DS.writeS, DS.writeOk, ho, hw]
  obtain ⟨p1, p2, p3⟩ := spend_keeps { s with pend := s.pend ++ [(o, t)], vis := over s.vis o t.data.toList }
  refine ⟨by simp [DS.writeE, ho, hw], by rw [e, p2], by rw [e, p3]; simp, ?_, ?_⟩
  · rw [e]
    unfold DS.spend
    by_cases h1 : s.after = 1
    · simp [h1]
    · have h0 : ¬ s.after = 0 := by omega
      simp [h0, h1, ho]
  · rw [e]
    unfold DS.spend
    by_cases h1 : s.after = 1
    · simp [h1]
    · have h0 : ¬ s.after = 0 := by omega
      simp [h0, h1]
theorem write_off {s : DS} (ho : s.off = true) (o : Int) (t : ByteArray) : s.writeE o t = 331 ∧ s.writeS o t = s := by simp [DS.writeE, DS.writeS, DS.writeOk, ho]
set_option maxHeartbeats 400000 in
theorem read_nil (a n : Int) (w : World) : Calls Try.prog 14 #[.pointer none, .int .i64 a, .int .i64 n] w fun e w' => e = .returned (.tuple #[.string ⟨#[]⟩, .int .i64 1]) ∧ w = w' := by
  go_enter Try.func14, Try.ntmps14
  go_wp2_with fail
  refine (ready_nil _).mono ?_
  rintro e w1 ⟨rfl, rfl⟩
  go_wp2
  go_ret2
  exact ⟨rfl, rfl⟩
set_option maxHeartbeats 400000 in
theorem write_nil (a : Int) (s : ByteArray) (w : World) : Calls Try.prog 21 #[.pointer none, .int .i64 a, .string s] w fun e w' => e = .returned (.int .i64 1) ∧ w = w' := by
  go_enter Try.func21, Try.ntmps21
  go_wp2_with fail
  refine (ready_nil _).mono ?_
  rintro e w1 ⟨rfl, rfl⟩
  go_wp2
  go_ret
  exact ⟨rfl, rfl⟩
set_option maxHeartbeats 400000 in
theorem sync_nil (w : World) : Calls Try.prog 23 #[.pointer none] w fun e w' => e = .returned (.int .i64 1) ∧ w = w' := by
  go_enter Try.func23, Try.ntmps23
  go_wp2_with fail
  refine (ready_nil _).mono ?_
  rintro e w1 ⟨rfl, rfl⟩
  go_wp2
  go_ret
  exact ⟨rfl, rfl⟩
set_option maxHeartbeats 400000 in
theorem cutd_nil (n : Int) (w : World) : Calls Try.prog 24 #[.pointer none, .int .i64 n] w fun e w' => e = .returned (.int .i64 1) ∧ w = w' := by
  go_enter Try.func24, Try.ntmps24
  go_wp2_with fail
  refine (ready_nil _).mono ?_
  rintro e w1 ⟨rfl, rfl⟩
  go_wp2
  go_ret
  exact ⟨rfl, rfl⟩
set_option maxHeartbeats 400000 in
theorem pending_nil (w : World) : Calls Try.prog 17 #[.pointer none] w fun e w' => e = .returned (.int .i64 0) ∧ w = w' := by
  go_enter Try.func17, Try.ntmps17
  go_wp2
  go_ret
  exact ⟨rfl, rfl⟩
set_option maxHeartbeats 400000 in
theorem size_nil (w : World) : Calls Try.prog 16 #[.pointer none] w fun e w' => e = .returned (.int .i64 0) ∧ w = w' := by
  go_enter Try.func16, Try.ntmps16
  go_wp2
  go_ret
  exact ⟨rfl, rfl⟩
end Go.Proofs.Ytgmghfgcpjpigaa
