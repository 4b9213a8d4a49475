/- The fixed examples with which each statement on disks begins come out as they should; the laws' helpers. -/
import Derived.Test.YtgmghfgcpjpigaaDiskX
import Derived.Test.YtgmghfgcpjpigaaFlats
import Derived.KernelRfl
namespace Go.Proofs.Ytgmghfgcpjpigaa
open Go.RowKit

/-- The disk is of the call's own making. -/
structure On (W0 w : World) (F : Nat → Prop) (D n : Nat) (s : DS) : Prop where
  disk : Disk w F D n s
  mine : ∀ k, F k → W0.heap.size ≤ k
  below : Below W0.heap.size W0 w
section
variable {W0 w w' : World} {F : Nat → Prop} {D n : Nat} {s s' : DS}
theorem On.step (h : On W0 w F D n s) (hS : DStep w w' F D n s') : ∃ F', On W0 w' F' D n s' ∧ Only F w w' ∧ ∀ k, F' k → F k ∨ w.heap.size ≤ k := by
  obtain ⟨hO, F', hD, hF⟩ := hS
  exact ⟨F', ⟨hD, fun k hk => (hF k hk).elim (h.mine k) (Nat.le_trans h.below.size), h.below.trans (hO.below h.below.size h.mine)⟩, hO, hF⟩
theorem On.next (h : On W0 w F D n s) (hb : Below w.heap.size w w') : On W0 w' F D n s := ⟨h.disk.next hb, h.mine, Below.andThen h.below hb⟩
theorem On.new (h : Below W0.heap.size W0 w) (hb : Below w.heap.size w w') (hD : Disk w' F D n s) (hF : ∀ k, F k → w.heap.size ≤ k) : On W0 w' F D n s :=
  ⟨hD, fun k hk => Nat.le_trans h.size (hF k hk), Below.andThen h hb⟩
end

set_option maxHeartbeats 400000 in
theorem size_of (D n : Nat) (F : Nat → Prop) (s : DS) (w : World) (h : Disk w F D n s) : Calls Try.prog 16 #[at_ D] w fun e w' => e = .returned (.int .i64 n) ∧ w = w' := by
  obtain ⟨G1, G2, pv, h, rfl⟩ := h
  exact size_any D n _ w (row5 h.head).2.2.1
theorem pending_of (D n : Nat) (F : Nat → Prop) (s : DS) (w : World) (h : Disk w F D n s) : Calls Try.prog 17 #[at_ D] w fun e w' => e = .returned (.int .i64 s.pend.length) ∧ w = w' := by
  obtain ⟨G1, G2, pv, h, rfl⟩ := h
  have h4 := (row5 h.head).2.2.2.2.1
  rcases h.pend.2 with ⟨rfl, e⟩ | ⟨g, cap, cur, rfl, _⟩
  · rw [e]
    exact pending_any D 0 0 none w h4
  · exact pending_any D _ _ _ w h4

set_option maxHeartbeats 400000 in
theorem pick_any (c n : Int) (w : World) (hn : 0 < n) (hc' : -9223372036854775808 ≤ c) (hc : c ≤ 9223372036854775807) :
    Calls Try.prog 15 #[.int .i64 c, .int .i64 n] w fun e w' => e = .returned (.int .i64 (pickZ c n)) ∧ w = w' := by
  by_cases h : c < 0
  · have h0 : 0 ≤ -(c + 1) := by omega
    have e : (-(c + 1)).tmod n = pickZ c n := by rw [Int.tmod_eq_emod_of_nonneg h0]; simp [pickZ, h]
    have E := Lib.hid e
    clear e
    go_enter Try.func15, Try.ntmps15
    go_wp2
    go_ret
    exact ⟨retv (vint (by rw [← E.out, Int.neg_tmod])), rfl⟩
  · have h0 : 0 ≤ c := by omega
    have e : c % n = pickZ c n := by simp [pickZ, h]
    have E := Lib.hid e
    clear e
    go_enter Try.func15, Try.ntmps15
    go_wp2
    go_ret
    exact ⟨retv (vint E.out), rfl⟩

/-- a text's first n bytes -/
def cutT (s : ByteArray) (n : Nat) : ByteArray := s.extract 0 n
theorem cutT_size (s : ByteArray) (n : Nat) : (cutT s n).size = min s.size n := by unfold cutT; rw [ByteArray.size_extract]; omega
theorem cutT_eq (s : ByteArray) (n : Nat) : s.extract 0 (min (s.size : Int) n).toNat = cutT s n := by
  unfold cutT
  apply ByteArray.ext
  rw [ByteArray.data_extract, ByteArray.data_extract]
  apply Array.ext_getElem?
  intro i
  have : s.data.size = s.size := rfl
  simp [Array.getElem?_extract]
  by_cases h : i < min (s.size : Int) n
  · rw [if_pos (by omega), if_pos (by omega)]
  · rw [if_neg (by omega)]
    split
    · rw [Array.getElem?_eq_none (by omega)]
    · rfl
set_option maxHeartbeats 400000 in
theorem cut_any (s : ByteArray) (n : Nat) (w : World) (hs : s.size ≤ maxLen) (hn : n ≤ 4194304) :
    Calls Try.prog 22 #[.string s, .int .i64 n] w fun e w' => e = .returned (.string (cutT s n)) ∧ w = w' := by
  unfold maxLen at hs
  have E := Lib.hid (cutT_eq s n)
  go_enter Try.func22, Try.ntmps22
  go_wp2
  all_goals
    go_ret
    exact ⟨by rw [E.out]; rfl, rfl⟩

def s1 : DS := (DS.fresh 4).writeS 0 ⟨#[97, 98]⟩
def s2 : DS := s1.writeS 1 ⟨#[120, 121]⟩
def s3 : DS := s2.writeS 3 ⟨#[122, 122]⟩
def s4 : DS := s3.crashS [1, 0] 1
def s5 : DS := s4.cutS 1
def s6 : DS := s5.writeS 3 ⟨#[113]⟩
theorem v1 : (DS.fresh 4).writeE 0 ⟨#[97, 98]⟩ = 0 := by kernel_rfl
theorem v2 : s1.writeE 1 ⟨#[120, 121]⟩ = 0 := by kernel_rfl
theorem v3 : s2.writeE 3 ⟨#[122, 122]⟩ = 330 := by kernel_rfl
theorem v4 : s3.readV 0 4 = ⟨#[97, 120, 121, 0]⟩ := by kernel_rfl
theorem v5 : s3.readE 0 4 = 0 := by kernel_rfl
theorem v6 : s3.pend.length = 2 := by kernel_rfl
theorem v7 : s4.readV 0 4 = ⟨#[97, 120, 0, 0]⟩ := by kernel_rfl
theorem v8 : s4.readE 0 4 = 0 := by kernel_rfl
theorem v9 : s4.cutE 1 = 0 := by kernel_rfl
theorem v10 : s5.writeE 3 ⟨#[113]⟩ = 0 := by kernel_rfl
theorem v11 : s6.powE = 331 := by kernel_rfl

/-- a write that lies on a disk of n bytes -/
def fitO (a : Int) (n : Nat) : Nat := (pickZ a (n + 1)).toNat
def fitS (a : Int) (s : ByteArray) (n : Nat) : ByteArray := cutT s (n - fitO a n)
theorem fitO_le (a : Int) (n : Nat) : fitO a n ≤ n := by have := pick_bd a (n + 1) (by omega); unfold fitO; omega
theorem fitO_eq (a : Int) (n : Nat) : ((fitO a n : Nat) : Int) = pickZ a (n + 1) := by have := pick_bd a (n + 1) (by omega); unfold fitO; omega
theorem fit_ok (a : Int) (s : ByteArray) (n : Nat) : fitO a n + (fitS a s n).size ≤ n := by have := fitO_le a n; unfold fitS; rw [cutT_size]; omega
set_option maxHeartbeats 1000000 in
theorem fits_any (a : Int) (s : ByteArray) (y : Bool) (n : Nat) (w : World) (ha : -9223372036854775808 ≤ a ∧ a ≤ 9223372036854775807) (hs : s.size ≤ maxLen) (hn : n ≤ 4194304) :
    Calls Try.prog 26 #[.agg #[.int .i64 a, .string s, .bool y], .int .i64 n] w fun e w' => e = .returned (.agg #[.int .i64 (fitO a n), .string (fitS a s n), .bool y]) ∧ Below w.heap.size w w' := by
  have CP := Lib.hid (fun w => pick_any a (n + 1) w (by omega) ha.1 ha.2)
  have h1 := fitO_le a n
  have CC := Lib.hid (fun w => cut_any s (n - fitO a n) w hs (by omega))
  rw [show fitS a s n = cutT s (n - fitO a n) from rfl]
  rw [← fitO_eq] at CP
  have e1 : ((n - fitO a n : Nat) : Int) = (n : Int) - (fitO a n : Int) := by omega
  rw [e1] at CC
  clear e1
  generalize fitO a n = o at *
  generalize cutT s (n - o) = t at *
  unfold maxLen at hs
  go_enter Try.func26, Try.ntmps26
  go_wp2_with fail
  refine (CP.out _).mono ?_
  rintro e w1 ⟨rfl, rfl⟩
  go_wp2_with fail
  refine (CC.out _).mono ?_
  rintro e w1 ⟨rfl, rfl⟩
  go_wp2
  exact bodyPost_ret (v := .agg #[.int .i64 o, .string t, .bool y]) (by first | (simp [results, Try.results26, go_sem]; done) | simp [results, Try.results26, go_sem, *]) rfl ⟨rfl, by (repeat' first | exact Below.refl _ _ | assumption | (refine below_drewN ?_ _) | (refine Below.drew ?_) | (refine Below.alloc ?_ ?_ _) | (refine Below.setCell ?_ ?_ _) | (simp; done) | (simp; omega) | omega)⟩

theorem splice_get {α : Type} (L : List α) (a : Nat) (cs : List α) (h : a + cs.length ≤ L.length) (i : Nat) : (splice L a cs)[i]? = if i < a then L[i]? else if i < a + cs.length then cs[i - a]? else L[i]? := by
  have hl : (L.take a).length = a := by simp; omega
  unfold splice
  by_cases h1 : i < a
  · rw [if_pos h1, List.getElem?_append_left (by omega), List.getElem?_take_of_lt h1]
  · rw [if_neg h1, List.getElem?_append_right (by omega), hl]
    by_cases h2 : i < a + cs.length
    · rw [if_pos h2, List.getElem?_append_left (by omega)]
    · rw [if_neg h2, List.getElem?_append_right (by omega), List.getElem?_drop]
      congr 1
      omega
theorem over_more (L : List UInt8) (a k : Nat) (s : List UInt8) (h : a + s.length ≤ L.length) (hk : k < s.length) : ((over L a (s.take k)).map byteV).set (a + k) (byteV s[k]) = (over L a (s.take (k + 1))).map byteV := by
  rw [← List.map_set]
  congr 1
  apply List.ext_getElem?
  intro i
  have l1 : (s.take k).length = k := by simp; omega
  have l2 : (s.take (k + 1)).length = k + 1 := by simp; omega
  have l3 : (over L a (s.take k)).length = L.length := over_length _ _ _ (by omega)
  rw [List.getElem?_set, l3, splice_get _ _ _ (by omega), splice_get _ _ _ (by omega), l1, l2]
  by_cases e : a + k = i
  · subst e
    rw [if_pos rfl, if_pos (by omega), if_neg (by omega), if_pos (by omega), show a + k - a = k by omega, List.getElem?_take_of_lt (by omega), List.getElem?_eq_getElem hk]
  · rw [if_neg e]
    by_cases h1 : i < a
    · rw [if_pos h1, if_pos h1]
    · rw [if_neg h1, if_neg h1]
      by_cases h2 : i < a + k
      · rw [if_pos h2, if_pos (by omega), List.getElem?_take_of_lt (by omega), List.getElem?_take_of_lt (by omega)]
      · rw [if_neg h2, if_neg (by omega)]
theorem run_index_at {P : Program} (w : World) (t : TypeId) (s : ByteArray) (k : IntKind) (i : Nat) (h : P.underlying t = some .string) (hi : i < s.size) :
    (Instr.index t (.string s) (.int k (i : Int))).run P w = .ok (.int .u8 (s[i]'hi).toNat) w := by
  rw [run_index_string w t s k i h, dif_pos (by omega)]
  rfl
set_option maxRecDepth 100000 in
set_option maxHeartbeats 1000000 in
theorem put_any (b n a : Nat) (L : List UInt8) (s : ByteArray) (w : World) (h : Row w b 5 (L.map byteV)) (hL : L.length = n) (hn : n ≤ 4194304) (hfit : a + s.size ≤ n) :
    Calls Try.prog 27 #[.slice (some ⟨b, 0, none⟩) n n, .int .i64 a, .string s] w fun e w' => e = .returned (.tuple #[]) ∧ Only (fun j => j = b) w w' ∧ Row w' b 5 ((over L a s.data.toList).map byteV) := by
  have h0 : Row w b 5 ((over L a (s.data.toList.take 0)).map byteV) := by simpa [splice] using h
  have HR := Lib.hid h0
  clear h h0
  go_enter Try.func27, Try.ntmps27
  go_wp2_with fail
  go_loopw [6] (fun i wr => ∃ k : Nat, k ≤ s.size ∧ i = .int .i64 k ∧ Only (fun j => j = b) w wr ∧ Row wr b 5 ((over L a (s.data.toList.take k)).map byteV)) (fun i _ => s.size - (intOf i).toNat)
  case atStart => exact ⟨0, Nat.zero_le _, rfl, Only.refl _ _, HR.out⟩
  case round =>
    obtain ⟨k, hk, rfl, hO, hR⟩ := hrel
    by_cases hlt : k < s.size
    · have i1 := fun (w : World) => run_index_at (P := Try.prog) w 9 s .i64 k rfl hlt
      have sl := size_list s
      have hc : wr.cell? ⟨b, a + k, none⟩ = some (((over L a (s.data.toList.take k)).map byteV)[a + k]'(by rw [List.length_map, over_length _ _ _ (by simp; omega)]; omega)) := by rw [hR.cell]; exact List.getElem?_eq_getElem _
      obtain ⟨old, ho⟩ : ∃ old, wr.cell? ⟨b, a + k, none⟩ = some old := ⟨_, hc⟩
      have hf := hR.frozen (a + k)
      have K := Lib.hid (And.intro hO (And.intro hR sl))
      clear hO hR hc sl
      go_wp2_with fail
      go_roundw
      case rel =>
        obtain ⟨hO, hR, sl⟩ := K.out
        refine ⟨k + 1, by omega, by go_num, Only.setCell hO ?_ _, ?_⟩
        · exact .inl rfl
        · rw [← over_more L a k _ (by omega) (by omega)]
          exact hR.set (a + k) _
      case measure => simp [intOf]; omega
    · obtain rfl : k = s.size := by omega
      rw [List.take_of_length_le (by rw [size_list]; omega)] at hR
      have K := Lib.hid (And.intro hO hR)
      clear hO hR hlt hk
      go_wp2_with fail
      go_end0
      exact ⟨rfl, K.out⟩

set_option maxRecDepth 100000 in
set_option maxHeartbeats 2000000 in
theorem sane_any (w : World) : Calls Try.prog 12 #[] w fun r w' => r = .returned (.bool true) ∧ Below w.heap.size w w' := by
  go_enter Try.func12, Try.ntmps12
  go_wp2_with fail
  refine (new_any 4 w (by omega) (by omega)).mono ?_
  rintro e w1 ⟨D, F, rfl, hb, hD, hF⟩
  have O := Lib.hid (On.new (Below.refl _ w) hb hD hF)
  clear hb hD hF
  go_wp2_with fail
  refine (new_bad 0 w1 (.inl (by omega))).mono ?_
  rintro e w2 ⟨rfl, rfl⟩
  go_wp2_with fail
  refine (write_any D 4 _ _ 0 ⟨#[97, 98]⟩ _ O.out.disk (by omega) (by decide) (by decide)).mono ?_
  rintro e w3 ⟨rfl, hS⟩
  obtain ⟨_, O', _, _⟩ := On.step O.out hS
  clear hS O
  have O := Lib.hid O'
  clear O'
  change Hid (On w w3 _ D 4 s1) at O
  rw [v1]
  go_wp2_with fail
  refine (write_any D 4 _ _ 1 ⟨#[120, 121]⟩ _ O.out.disk (by omega) (by decide) (by decide)).mono ?_
  rintro e w4 ⟨rfl, hS⟩
  obtain ⟨_, O', _, _⟩ := On.step O.out hS
  clear hS O
  have O := Lib.hid O'
  clear O'
  change Hid (On w w4 _ D 4 s2) at O
  rw [v2]
  go_wp2_with fail
  refine (write_any D 4 _ _ 3 ⟨#[122, 122]⟩ _ O.out.disk (by omega) (by decide) (by decide)).mono ?_
  rintro e w5 ⟨rfl, hS⟩
  obtain ⟨_, O', _, _⟩ := On.step O.out hS
  clear hS O
  have O := Lib.hid O'
  clear O'
  change Hid (On w w5 _ D 4 s3) at O
  rw [v3]
  go_wp2_with fail
  refine (read_any D 4 _ _ 0 4 _ O.out.disk (by omega) (by omega)).mono ?_
  rintro e w5 ⟨rfl, rfl⟩
  rw [v4, v5]
  go_wp2_with fail
  refine (pending_of D 4 _ _ _ O.out.disk).mono ?_
  rintro e w5 ⟨rfl, rfl⟩
  rw [v6]
  have O1 := Lib.hid (O.out.next (show Below w5.heap.size w5 (w5.alloc (.cells #[.int .i64 1, .int .i64 0] 3)) from (Below.refl _ _).alloc (Nat.le_refl _) _))
  have HL := Lib.hid (O.out.disk.lt)
  go_wp2_with fail
  refine (crash_any D 4 _ _ (some ⟨w5.heap.size, 0, none⟩) [1, 0] 2 1 _ O1.out.disk (by decide) (by decide) (by
    intro i hi
    refine ⟨_, rfl, ?_, fun hF => absurd (HL.out _ hF) (Nat.lt_irrefl _)⟩
    match i, hi with
    | 0, _ => exact cells2_new _ _ _ _ 0 _ rfl
    | 1, _ => exact cells2_new _ _ _ _ 1 _ rfl) (by omega)).mono ?_
  rintro e w6 ⟨rfl, hS⟩
  obtain ⟨_, O', _, _⟩ := On.step O1.out hS
  clear hS O
  have O := Lib.hid O'
  clear O'
  change Hid (On w w6 _ D 4 s4) at O
  rw [show (Value.int IntKind.i64 0) = .int .i64 0 from rfl]
  go_wp2_with fail
  refine (read_any D 4 _ _ 0 4 _ O.out.disk (by omega) (by omega)).mono ?_
  rintro e w6 ⟨rfl, rfl⟩
  rw [v7, v8]
  go_wp2_with fail
  refine (cutd_any D 4 _ _ 1 _ O.out.disk (by omega)).mono ?_
  rintro e w7 ⟨rfl, hS⟩
  obtain ⟨_, O', _, _⟩ := On.step O.out hS
  clear hS O
  have O := Lib.hid O'
  clear O'
  change Hid (On w w7 _ D 4 s5) at O
  rw [v9]
  go_wp2_with fail
  refine (write_any D 4 _ _ 3 ⟨#[113]⟩ _ O.out.disk (by omega) (by decide) (by decide)).mono ?_
  rintro e w8 ⟨rfl, hS⟩
  obtain ⟨_, O', _, _⟩ := On.step O.out hS
  clear hS O
  have O := Lib.hid O'
  clear O'
  change Hid (On w w8 _ D 4 s6) at O
  rw [v10]
  go_wp2_with fail
  refine (sync_any D 4 _ _ _ O.out.disk).mono ?_
  rintro e w9 ⟨rfl, hS⟩
  obtain ⟨_, O', _, _⟩ := On.step O.out hS
  clear hS O
  have O := Lib.hid O'
  clear O'
  change Hid (On w w9 _ D 4 s6.syncS) at O
  rw [v11]
  go_wp2_with fail
  refine (size_of D 4 _ _ _ O.out.disk).mono ?_
  rintro e w9 ⟨rfl, rfl⟩
  go_wp2
  go_ret
  exact ⟨rfl, O.out.below⟩
end Go.Proofs.Ytgmghfgcpjpigaa
