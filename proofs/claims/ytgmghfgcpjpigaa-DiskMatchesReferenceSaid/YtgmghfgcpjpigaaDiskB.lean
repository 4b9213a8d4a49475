/- A disk is made, read, synced and written to. -/
import Derived.Test.YtgmghfgcpjpigaaDiskA
namespace Go.Proofs.Ytgmghfgcpjpigaa
open Go.RowKit

theorem infoByte : (Try.prog.info? 5).map (fun i => (i.zero, i.size, i.bytes)) = some (some (.int .u8 0), 1, 1) := by kernel_rfl
theorem infoWrite : (Try.prog.info? 69).map (fun i => (i.zero, i.size, i.bytes)) = some (some (.agg #[.int .i64 0, .string ⟨#[]⟩]), 2, 24) := by kernel_rfl
theorem sizeByte : (Try.prog.info? 5).map (·.size) = some 1 := by kernel_rfl

theorem fresh_at {w : World} {D G1 G2 n : Nat} (h1 : Row w G1 5 (List.replicate n (.int .u8 0))) (h2 : Row w G2 5 (List.replicate n (.int .u8 0))) (hne : G1 ≠ G2) (hn : n ≤ 4194304)
    (hD : Row w D 65 [.bool false, .int .i64 0, .slice (some ⟨G1, 0, none⟩) n n, .slice (some ⟨G2, 0, none⟩) n n, .slice none 0 0]) : DiskAt w D G1 G2 (.slice none 0 0) n (DS.fresh n) :=
  have e : (List.replicate n (0 : UInt8)).map byteV = List.replicate n (.int .u8 0) := by rw [List.map_replicate]; rfl
  ⟨hD, by rw [← e] at h1; exact h1, by rw [← e] at h2; exact h2, hne, World.ownsRow_nil _ _ _ _, DS.fresh_good n, hn⟩

theorem Row.newA (w : World) (t : TypeId) (n : Nat) (v : Value) : Row (w.alloc (.cells (Array.replicate n v) t)) w.heap.size t (List.replicate n v) := by
  have := Row.new w t (List.replicate n v)
  rwa [List.toArray_replicate] at this
theorem new_disk (w : World) (n : Nat) (hn : n ≤ 4194304) {G1 G2 : Nat} (h : (G1 = w.heap.size ∧ G2 = w.heap.size + 1) ∨ (G1 = w.heap.size + 1 ∧ G2 = w.heap.size)) {w' : World}
    (e : w' = (((w.alloc (.cells (Array.replicate n (.int .u8 0)) 5)).alloc (.cells (Array.replicate n (.int .u8 0)) 5)).alloc
      (.cells #[.bool false, .int .i64 0, .slice (some ⟨G1, 0, none⟩) n n, .slice (some ⟨G2, 0, none⟩) n n, .slice none 0 0] 65))) :
    Below w.heap.size w w' ∧ Disk w' (Foot (w.heap.size + 1 + 1) G1 G2 (.slice none 0 0)) (w.heap.size + 1 + 1) n (DS.fresh n) ∧ ∀ k, Foot (w.heap.size + 1 + 1) G1 G2 (.slice none 0 0) k → w.heap.size ≤ k := by
  subst e
  have R1 := Row.newA w 5 n (.int .u8 0)
  have R2 := Row.newA (w.alloc (.cells (Array.replicate n (.int .u8 0)) 5)) 5 n (.int .u8 0)
  have R3 := Row.new ((w.alloc (.cells (Array.replicate n (.int .u8 0)) 5)).alloc (.cells (Array.replicate n (.int .u8 0)) 5)) 65 [.bool false, .int .i64 0, .slice (some ⟨G1, 0, none⟩) n n, .slice (some ⟨G2, 0, none⟩) n n, .slice none 0 0]
  rw [World.size_alloc] at R2 R3
  rw [World.size_alloc] at R3
  refine ⟨by (repeat' first | exact Below.refl _ _ | assumption | (refine below_drewN ?_ _) | (refine Below.drew ?_) | (refine Below.alloc ?_ ?_ _) | (refine Below.setCell ?_ ?_ _) | (simp; done) | (simp; omega) | omega), ⟨G1, G2, .slice none 0 0, ?_, rfl⟩, ?_⟩
  · rcases h with ⟨rfl, rfl⟩ | ⟨rfl, rfl⟩
    · exact fresh_at ((R1.alloc _).alloc _) (R2.alloc _) (by omega) hn R3
    · exact fresh_at (R2.alloc _) ((R1.alloc _).alloc _) (by omega) hn R3
  · rintro k (rfl | rfl | rfl | hk)
    · omega
    · omega
    · omega
    · cases hk
theorem Row.textAt {P : Program} {w : World} {b : Nat} {t : TypeId} {l : List UInt8} (h : Row w b t (l.map byteV)) (src dst e : TypeId) (a m cap : Nat) (hm : a + m ≤ l.length) (hs : P.underlying src = some (.slice e)) (he : P.underlying e = some (.int .u8)) (hd : P.underlying dst = some .string) :
    (convert src dst (.slice (some ⟨b, a, none⟩) m cap)).run P w = .ok (.string ⟨((l.drop a).take m).toArray⟩) w := by
  have hl : ((l.drop a).take m).length = m := by simp; omega
  have := run_convert_bytes_back (P := P) w src dst e ⟨b, a, none⟩ cap ((l.drop a).take m) hs he hd fun j hj => by
    have e : Addr.add ⟨b, a, none⟩ j = ⟨b, a + j, none⟩ := by unfold Addr.add; split <;> simp_all
    rw [hl] at hj
    rw [e, h.cell]
    simp [List.getElem?_eq_getElem (show a + j < l.length by omega)]
  rwa [hl] at this

set_option maxHeartbeats 1000000 in
theorem new_any (n : Nat) (w : World) (h0 : 1 ≤ n) (hn : n ≤ 4194304) :
    Calls Try.prog 13 #[.int .i64 n] w fun e w' => ∃ D F, e = .returned (.tuple #[at_ D, .int .i64 0]) ∧ Below w.heap.size w w' ∧ Disk w' F D n (DS.fresh n) ∧ ∀ k, F k → w.heap.size ≤ k := by
  obtain ⟨i0, hi, hz0, hz1, hz2⟩ := info_parts infoByte
  have hmk := fun (W : World) => run_make_row (P := Try.prog) W 40 5 i0 _ 1 Try.underlying40 hi hz0 hz1 hz2 rfl n (by omega) (by omega)
  go_enter Try.func13, Try.ntmps13
  go_wp2_with fail
  go_region
  all_goals (try go_wp2)
  all_goals
    go_ret2
    first
      | (obtain ⟨k1, k2, k3⟩ := new_disk w n hn (.inl ⟨rfl, rfl⟩) rfl; exact ⟨_, _, rfl, k1.drew, k2.keep (fun _ _ => rfl), k3⟩)
      | (obtain ⟨k1, k2, k3⟩ := new_disk w n hn (.inr ⟨rfl, rfl⟩) rfl; exact ⟨_, _, rfl, k1.drew, k2.keep (fun _ _ => rfl), k3⟩)
set_option maxHeartbeats 400000 in
theorem new_bad (n : Int) (w : World) (h : n < 1 ∨ 4194304 < n) :
    Calls Try.prog 13 #[.int .i64 n] w fun e w' => e = .returned (.tuple #[.pointer none, .int .i64 2]) ∧ w = w' := by
  rcases h with h | h
  · go_enter Try.func13, Try.ntmps13
    go_wp2
    go_ret2
    exact ⟨rfl, rfl⟩
  · have h' : ¬ n < 1 := by omega
    go_enter Try.func13, Try.ntmps13
    go_wp2
    go_ret2
    exact ⟨rfl, rfl⟩

set_option maxHeartbeats 1000000 in
theorem read_any (D n : Nat) (F : Nat → Prop) (s : DS) (a m : Int) (w : World) (h : Disk w F D n s) (ha : -9223372036854775808 ≤ a ∧ a ≤ 9223372036854775807) (hm : -9223372036854775808 ≤ m ∧ m ≤ 9223372036854775807) :
    Calls Try.prog 14 #[at_ D, .int .i64 a, .int .i64 m] w fun e w' => e = .returned (.tuple #[.string (s.readV a m), .int .i64 (s.readE a m)]) ∧ w = w' := by
  obtain ⟨G1, G2, pv, h, rfl⟩ := h
  obtain ⟨h0, h1, h2, h3, h4, hf⟩ := row5 h.head
  have CR := Lib.hid (ready_any D s.off w h0)
  have CW := Lib.hid (within_any D n _ a m w h2 h.room ha hm)
  have hs := h.good.sure
  have hv := h.good.vis
  have HV := Lib.hid h.vis
  have hroom := h.room
  cases ho : s.off
  · rw [ho] at CR
    cases hw : within n a m
    · rw [hw] at CW
      have e1 : s.readV a m = ⟨#[]⟩ := by simp [DS.readV, DS.readOk, ho, hs, hw]
      have e2 : s.readE a m = 330 := by simp [DS.readE, ho, hs, hw]
      rw [e1, e2]
      clear e1 e2 h ho hw hs hv h0 h1 h3 h4 hf
      go_enter Try.func14, Try.ntmps14
      go_wp2_with fail
      refine CR.out.mono ?_
      rintro e w1 ⟨rfl, rfl⟩
      go_wp2_with fail
      refine CW.out.mono ?_
      rintro e w1 ⟨rfl, rfl⟩
      go_wp2
      go_ret2
      exact ⟨rfl, rfl⟩
    · rw [hw] at CW
      have e1 : s.readV a m = ⟨((s.vis.drop a.toNat).take m.toNat).toArray⟩ := by simp [DS.readV, DS.readOk, ho, hs, hw]
      have e2 : s.readE a m = 0 := by simp [DS.readE, ho, hs, hw]
      rw [e1, e2]
      obtain ⟨q0, q1, q2, q3⟩ := (within_iff _ _ _).1 hw
      obtain ⟨a, rfl⟩ := Int.eq_ofNat_of_zero_le q0
      obtain ⟨m, rfl⟩ := Int.eq_ofNat_of_zero_le q2
      have hcv := Row.textAt (P := Try.prog) h.vis 40 9 5 a m (n - a) (by omega) rfl rfl rfl
      have hcz := Row.textAt (P := Try.prog) h.vis 40 9 5 0 0 0 (by omega) rfl rfl rfl
      have eT := Lib.hid (show m = 0 → (⟨((s.vis.drop a).take m).toArray⟩ : ByteArray) = ⟨#[]⟩ from fun h => by simp [h])
      obtain ⟨T, hT⟩ : ∃ T : ByteArray, T = ⟨((s.vis.drop a).take m).toArray⟩ := ⟨_, rfl⟩
      simp only [Int.toNat_natCast] at hcv ⊢
      rw [← hT] at hcv eT ⊢
      rw [List.take_zero] at hcz
      clear e1 e2 h ho hw hs h0 h1 h4 hf hT
      by_cases hna : a = n
      · have hm0 : m = 0 := by omega
        rw [eT.out hm0]
        subst hm0
        subst hna
        clear eT hcv
        go_enter Try.func14, Try.ntmps14
        go_wp2_with fail
        refine CR.out.mono ?_
        rintro e w1 ⟨rfl, rfl⟩
        go_wp2_with fail
        refine CW.out.mono ?_
        rintro e w1 ⟨rfl, rfl⟩
        go_wp2
        go_ret2
        exact ⟨rfl, rfl⟩
      · have hna' : ¬ n = a := fun h => hna h.symm
        clear eT hcz
        go_enter Try.func14, Try.ntmps14
        go_wp2_with fail
        refine CR.out.mono ?_
        rintro e w1 ⟨rfl, rfl⟩
        go_wp2_with fail
        refine CW.out.mono ?_
        rintro e w1 ⟨rfl, rfl⟩
        go_wp2
        go_ret2
        exact ⟨rfl, rfl⟩
  · rw [ho] at CR
    have e1 : s.readV a m = ⟨#[]⟩ := by simp [DS.readV, DS.readOk, ho]
    have e2 : s.readE a m = 331 := by simp [DS.readE, ho]
    rw [e1, e2]
    clear e1 e2 h ho hs hv h0 h1 h2 h3 h4 hf
    go_enter Try.func14, Try.ntmps14
    go_wp2_with fail
    refine CR.out.mono ?_
    rintro e w1 ⟨rfl, rfl⟩
    go_wp2
    go_ret2
    exact ⟨rfl, rfl⟩
end Go.Proofs.Ytgmghfgcpjpigaa
