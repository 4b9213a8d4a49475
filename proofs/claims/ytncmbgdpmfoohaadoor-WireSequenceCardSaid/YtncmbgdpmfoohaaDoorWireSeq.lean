/- WireSequence: a sequence of encodings is read back. -/
import Derived.Test.YtncmbgdpmfoohaaDoorWireUniq
namespace Go.Proofs.YtncmbgdpmfoohaaDoor
open Go.RowKit Go.ChangeShapes Go.WideShapes Go.ChangeAt

/-- a text's first 100 bytes, as the walk has them -/
def cutM (s : ByteArray) : ByteArray := s.extract 0 (min (s.size : Int) 100).toNat
theorem cutM_size (s : ByteArray) : (cutM s).size ≤ 100 := by
  unfold cutM
  rw [ByteArray.size_extract]
  omega
/-- the first k pairs of encodings -/
def seqS (N : Nat → Int) (X : Nat → ByteArray) : Nat → ByteArray
  | 0 => ⟨#[]⟩
  | k + 1 => (seqS N X k ++ encS (N k)) ++ (encS (X k).size ++ X k)
theorem seqS_more (N : Nat → Int) (X : Nat → ByteArray) {k : Nat} : ∀ {m : Nat}, k ≤ m → ∃ q, seqS N X m = seqS N X k ++ q
  | 0, h => by
    obtain rfl : k = 0 := by omega
    exact ⟨⟨#[]⟩, rfl⟩
  | m + 1, h => by
    by_cases hk : k = m + 1
    · subst hk
      exact ⟨⟨#[]⟩, by apply ByteArray.ext; simp⟩
    · obtain ⟨q, hq⟩ := seqS_more N X (k := k) (m := m) (by omega)
      refine ⟨(q ++ encS (N m)) ++ (encS (X m).size ++ X m), ?_⟩
      show (seqS N X m ++ encS (N m)) ++ (encS (X m).size ++ X m) = _
      rw [hq]
      apply ByteArray.ext
      simp [Array.append_assoc]
theorem seqS_size {N : Nat → Int} {X : Nat → ByteArray} (hN : ∀ i, -maxI ≤ N i ∧ N i ≤ maxI) (hX : ∀ i, (X i).size ≤ 100) : ∀ k, (seqS N X k).size ≤ 118 * k
  | 0 => Nat.le_refl 0
  | k + 1 => by
    have h := seqS_size hN hX k
    have h1 := encS_le (hN k).1 (hN k).2
    have h2 := encS_size (X k).size (by have := hX k; omega)
    have h3 := hX k
    show ((seqS N X k ++ encS (N k)) ++ (encS (X k).size ++ X k)).size ≤ _
    simp only [ByteArray.size_append]
    omega
theorem seqS_int {N : Nat → Int} {X : Nat → ByteArray} (hN : ∀ i, -maxI ≤ N i ∧ N i ≤ maxI) {k n : Nat} (h : k < n) :
    intR (seqS N X n).data.toList ((seqS N X k).size : Int) = (N k, ((seqS N X k ++ encS (N k)).size : Int), 0) := by
  obtain ⟨q, hq⟩ := seqS_more N X (show k + 1 ≤ n by omega)
  have h1 := trip_int (hN k).1 (hN k).2 (seqS N X k) ((encS (X k).size ++ X k) ++ q)
  rw [show seqS N X k ++ encS (N k) ++ ((encS (X k).size ++ X k) ++ q) = seqS N X n by rw [hq]; apply ByteArray.ext; simp [seqS, Array.append_assoc]] at h1
  rw [h1, ByteArray.size_append]
  simp
theorem seqS_str {N : Nat → Int} {X : Nat → ByteArray} (hX : ∀ i, (X i).size ≤ 100) {k n : Nat} (h : k < n) :
    strR (seqS N X n) ((seqS N X k ++ encS (N k)).size : Int) = (X k, ((seqS N X (k + 1)).size : Int), 0) := by
  obtain ⟨q, hq⟩ := seqS_more N X (show k + 1 ≤ n by omega)
  have h1 := trip_string (X k) (seqS N X k ++ encS (N k)) q (by have := hX k; omega)
  rw [show seqS N X k ++ encS (N k) ++ (encS (X k).size ++ X k) ++ q = seqS N X n from hq.symm] at h1
  rw [h1]
  show _ = (_, (((seqS N X k ++ encS (N k)) ++ (encS (X k).size ++ X k)).size : Int), _)
  rw [ByteArray.size_append (a := seqS N X k ++ encS (N k))]
  simp
theorem int_end (s : ByteArray) : intR s.data.toList (s.size : Int) = (0, 0, 10) := by
  rcases int_exact s (Nat.le_refl s.size) with h | ⟨_, _, _, _, _, h1, h2, _⟩
  · exact h
  · omega

set_option maxRecDepth 100000 in
set_option maxHeartbeats 4000000 in
theorem wireSequence_any (oa ob : Option Addr) (la ca lb cb : Nat) (L : Nat → Int) (Sx : Nat → ByteArray) (w : World) (T : Tab w) (a0 : la ≤ maxLen) (b0 : lb ≤ maxLen)
    (A : ∀ i, i < la → ∃ a, oa = some a ∧ ∀ w', Below w.heap.size w w' → w'.cell? (a.add i) = some (.int .i64 (L i)))
    (A1 : ∀ i, i < la → -9223372036854775808 ≤ L i ∧ L i ≤ 9223372036854775807)
    (B : ∀ i, i < lb → ∃ b, ob = some b ∧ ∀ w', Below w.heap.size w w' → w'.cell? (b.add i) = some (.string (Sx i)))
    (B1 : ∀ i, i < lb → (Sx i).size ≤ maxLen) :
    Calls Tryd.prog 6 #[.slice oa la ca, .slice ob lb cb] w fun r w' => r = .returned (.bool true) ∧ Below w.heap.size w w' := by
  have HT := Lib.hid T
  have HT0 := HT
  have BB := Lib.hid (Below.refl w.heap.size w)
  have HA := Lib.hid A
  have HB := Lib.hid B
  have HA1 := Lib.hid A1
  have HB1 := Lib.hid B1
  obtain ⟨N, eN⟩ : ∃ N : Nat → Int, ∀ i, N i = numZ (L i) := ⟨_, fun _ => rfl⟩
  obtain ⟨X, eX⟩ : ∃ X : Nat → ByteArray, ∀ i, X i = cutM (Sx i) := ⟨_, fun _ => rfl⟩
  have hN : ∀ i, -maxI ≤ N i ∧ N i ≤ maxI := fun i => by rw [eN]; have := num_bd (L i); unfold maxI; omega
  have hX : ∀ i, (X i).size ≤ 100 := fun i => by rw [eX]; exact cutM_size _
  have HN := Lib.hid hN
  have HX := Lib.hid hX
  have EN := Lib.hid eN
  have EX := Lib.hid eX
  have HS := Lib.hid (fun k => seqS_size hN hX k)
  unfold maxLen at a0 b0
  clear T A B A1 B1 hN hX eN eX
  go_enter Tryd.func6, Tryd.ntmps6
  go_wp2_with fail
  refine (sane_any _ HT.out).mono ?_
  rintro e w1 ⟨rfl, hb⟩
  have HB := Lib.hid hb
  have hW : Below w.heap.size w w1 := by (repeat' first | exact Below.refl _ _ | assumption | (refine Below.andThen ?_ HB.out) | (exact HB.out.size) | (refine below_drewN ?_ _) | (refine Below.drew ?_) | (refine Below.alloc ?_ ?_ _) | (refine Below.setCell ?_ ?_ _) | (simp; done) | (simp; omega) | omega)
  replace BB := Lib.hid (Below.andThen BB.out hW)
  replace HT := Lib.hid (HT.out.next hW)
  clear hb hW HB
  obtain ⟨n, hn⟩ : ∃ n : Nat, n = min (min la lb) 20 := ⟨_, rfl⟩
  go_upto_region 2 with (fail)
  go_cut [6] (fun v wx => v = .int .i64 n ∧ wx = w1)
  case first =>
    have hm := fun (w : World) ts t => run_min3 (P := Tryd.prog) w ts t la lb 20
    go_wp2_with fail
    go_meet
    exact ⟨congrArg (Value.int .i64) (by omega), rfl⟩
  obtain ⟨rfl, rfl⟩ := hcut
  rename World => w1
  have n1 : n ≤ la := by omega
  have n2 : n ≤ lb := by omega
  have n3 : n ≤ 20 := by omega
  clear hn
  go_wp2_with fail
  go_loopw [7, 8] (fun s i wr => ∃ k : Nat, k ≤ n ∧ i = .int .i64 k ∧ s = .string (seqS N X k) ∧ Below w.heap.size w wr) (fun _ i _ => n - (intOf i).toNat)
  case atStart => exact ⟨0, Nat.zero_le _, rfl, rfl, BB.out⟩
  case round =>
    obtain ⟨k, hk, rfl, rfl, hB⟩ := hrel
    by_cases hlt : k < n
    · obtain ⟨a, ea, fa⟩ := HA.out k (by omega)
      obtain ⟨b, eb, fb⟩ := HB.out k (by omega)
      subst ea eb
      have hca := fa wr hB
      have BB := Lib.hid hB
      have HT := Lib.hid (HT0.out.next hB)
      have HF := Lib.hid fa
      have HG := Lib.hid fb
      clear hB fa fb
      have l1 := HA1.out k (by omega)
      have CN := Lib.hid (fun w => put_v (show Value.int .i64 (numZ (L k)) = .int .i64 (N k) by rw [EN.out]) (number_any (L k) w l1.1 l1.2))
      have CP := Lib.hid (fun w => put_v (putV_ok (n := N k) (HN.out k).1 (HN.out k).2) (put_any (N k) w))
      have l2 := HB1.out k (by omega)
      unfold maxLen at l2
      have CQ := Lib.hid (fun w => put_v (show putSV ((Sx k).extract 0 (min ((Sx k).size : Int) 100).toNat) = .tuple #[.string (encS (X k).size ++ X k), .int .i64 0] by
        rw [EX.out]
        exact putSV_ok (v := cutM (Sx k)) (by have := cutM_size (Sx k); omega)) (putString_any ((Sx k).extract 0 (min ((Sx k).size : Int) 100).toNat) w (by unfold maxLen; rw [ByteArray.size_extract]; omega)))
      go_wp2_with fail
      refine (CN.out _).mono ?_
      rintro e w4 ⟨rfl, hb⟩
      have HB := Lib.hid hb
      have hW : Below wr.heap.size wr w4 := by (repeat' first | exact Below.refl _ _ | assumption | (refine Below.andThen ?_ HB.out) | (exact HB.out.size) | (refine below_drewN ?_ _) | (refine Below.drew ?_) | (refine Below.alloc ?_ ?_ _) | (refine Below.setCell ?_ ?_ _) | (simp; done) | (simp; omega) | omega)
      replace BB := Lib.hid (Below.andThen BB.out hW)
      replace HT := Lib.hid (HT.out.next hW)
      clear hb hW HB
      clear CN hca
      go_wp2_with fail
      refine (CP.out _).mono ?_
      rintro e w5 ⟨rfl, hb⟩
      have HB := Lib.hid hb
      have hW : Below w4.heap.size w4 w5 := by (repeat' first | exact Below.refl _ _ | assumption | (refine Below.andThen ?_ HB.out) | (exact HB.out.size) | (refine below_drewN ?_ _) | (refine Below.drew ?_) | (refine Below.alloc ?_ ?_ _) | (refine Below.setCell ?_ ?_ _) | (simp; done) | (simp; omega) | omega)
      replace BB := Lib.hid (Below.andThen BB.out hW)
      replace HT := Lib.hid (HT.out.next hW)
      clear hb hW HB
      clear CP
      go_wp2_with fail
      have fq := fun (q : Kin w5) => HG.out q.it (Below.andThen BB.out q.below)
      refine wp_region_kin (by kernel_rfl) (by kernel_rfl) (w5.heap.size) 0 (by first | assumption | (simp; done) | (simp; omega) | omega | (have := HS.out; omega)) (fun hk => ?_)
      repeat (go_big_quiet_step ((go_at_call 19; exact Calls.kin (CQ.out _))))
      refine wpQuiet_nil ?_
      clear hk
      intro w6 hb
      have HB := Lib.hid hb
      have hW : Below w5.heap.size w5 w6 := by (repeat' first | exact Below.refl _ _ | assumption | (refine Below.andThen ?_ HB.out) | (exact HB.out.size) | (refine below_drewN ?_ _) | (refine Below.drew ?_) | (refine Below.alloc ?_ ?_ _) | (refine Below.setCell ?_ ?_ _) | (simp; done) | (simp; omega) | omega)
      replace BB := Lib.hid (Below.andThen BB.out hW)
      replace HT := Lib.hid (HT.out.next hW)
      clear hb hW HB
      clear fq CQ
      have z1 := HS.out k
      have z1' : (seqS N X k).size ≤ 2360 := by omega
      have z2 := encS_le (HN.out k).1 (HN.out k).2
      have z3 := encS_size (X k).size (by have := HX.out k; omega)
      have z4 := HX.out k
      go_wp2_with fail
      exact ⟨⟨k + 1, by omega, by go_num, rfl, BB.out⟩, by simp [intOf]; omega⟩
    · have BB := Lib.hid hB
      have HT := Lib.hid (HT0.out.next hB)
      obtain rfl : k = n := by omega
      clear hB hlt hk
      have zn := HS.out k
      go_wp2_with fail
      go_loopw [13, 14] (fun at_ i wr => ∃ j : Nat, j ≤ k ∧ i = .int .i64 j ∧ at_ = .int .i64 ((seqS N X j).size : Nat) ∧ Below w.heap.size w wr) (fun _ i _ => k - (intOf i).toNat)
      case atStart => exact ⟨0, Nat.zero_le _, rfl, rfl, BB.out⟩
      case round =>
        obtain ⟨j, hj, rfl, rfl, hB⟩ := hrel
        by_cases hlt : j < k
        · obtain ⟨a, ea, fa⟩ := HA.out j (by omega)
          obtain ⟨b, eb, fb⟩ := HB.out j (by omega)
          subst ea eb
          have BB := Lib.hid hB
          have HT := Lib.hid (HT0.out.next hB)
          have HF := Lib.hid fa
          have HG := Lib.hid fb
          clear hB fa fb
          have l1 := HA1.out j (by omega)
          have z1 := HS.out j
          have z2 := encS_le (HN.out j).1 (HN.out j).2
          have CN := Lib.hid (fun w => put_v (show Value.int .i64 (numZ (L j)) = .int .i64 (N j) by rw [EN.out]) (number_any (L j) w l1.1 l1.2))
          have CI := Lib.hid (fun w => same_v (show intV (intR (seqS N X k).data.toList ((seqS N X j).size : Int)) = .tuple #[.int .i64 (N j), .int .i64 ((seqS N X j ++ encS (N j)).size : Nat), .int .i64 0] by rw [seqS_int HN.out hlt]; rfl) (int_any (seqS N X k) ((seqS N X j).size : Int) w (by unfold maxLen; omega) (by omega) (by omega)))
          have CS := Lib.hid (fun w => same_v (show strV (strR (seqS N X k) ((seqS N X j ++ encS (N j)).size : Int)) = .tuple #[.string ((Sx j).extract 0 (min ((Sx j).size : Int) 100).toNat), .int .i64 ((seqS N X (j + 1)).size : Nat), .int .i64 0] by rw [seqS_str HX.out hlt, EX.out j]; rfl) (string_any (seqS N X k) ((seqS N X j ++ encS (N j)).size : Int) w (by unfold maxLen; omega) (by omega) (by rw [ByteArray.size_append]; omega)))
          have l2 := HB1.out j (by omega)
          unfold maxLen at l2
          obtain ⟨Z1, hZ1⟩ : ∃ Z, Z = (seqS N X j ++ encS (N j)).size := ⟨_, rfl⟩
          obtain ⟨Z2, hZ2⟩ : ∃ Z, Z = (seqS N X (j + 1)).size := ⟨_, rfl⟩
          rw [← hZ1] at CI CS
          rw [← hZ2] at CS
          have HZ2 := Lib.hid hZ2
          clear hZ1 hZ2 z1 z2
          go_wp2_with fail
          refine (CI.out _).mono ?_
          rintro e w4 ⟨rfl, hb⟩
          have HB := Lib.hid hb
          have hW : Below wr.heap.size wr w4 := by (repeat' first | exact Below.refl _ _ | assumption | (refine Below.andThen ?_ HB.out) | (exact HB.out.size) | (refine below_drewN ?_ _) | (refine Below.drew ?_) | (refine Below.alloc ?_ ?_ _) | (refine Below.setCell ?_ ?_ _) | (simp; done) | (simp; omega) | omega)
          replace BB := Lib.hid (Below.andThen BB.out hW)
          replace HT := Lib.hid (HT.out.next hW)
          clear hb hW HB
          clear CI
          go_wp2_with fail
          refine (CS.out _).mono ?_
          rintro e w5 ⟨rfl, hb⟩
          have HB := Lib.hid hb
          have hW : Below w4.heap.size w4 w5 := by (repeat' first | exact Below.refl _ _ | assumption | (refine Below.andThen ?_ HB.out) | (exact HB.out.size) | (refine below_drewN ?_ _) | (refine Below.drew ?_) | (refine Below.alloc ?_ ?_ _) | (refine Below.setCell ?_ ?_ _) | (simp; done) | (simp; omega) | omega)
          replace BB := Lib.hid (Below.andThen BB.out hW)
          replace HT := Lib.hid (HT.out.next hW)
          clear hb hW HB
          clear CS
          go_wp2_with fail
          have fp := fun (q : Kin w5) => HF.out q.it (Below.andThen BB.out q.below)
          have fq := fun (q : Kin w5) => HG.out q.it (Below.andThen BB.out q.below)
          refine wp_region_kin (by kernel_rfl) (by kernel_rfl) (w5.heap.size) 0 (by first | assumption | (simp; done) | (simp; omega) | omega | (have := HS.out; omega)) (fun hk => ?_)
          repeat (go_big_quiet_step ((go_at_call 11; exact Calls.kin (CN.out _))))
          refine wpQuiet_nil ?_
          clear hk
          intro w6 hb
          have HB := Lib.hid hb
          have hW : Below w5.heap.size w5 w6 := by (repeat' first | exact Below.refl _ _ | assumption | (refine Below.andThen ?_ HB.out) | (exact HB.out.size) | (refine below_drewN ?_ _) | (refine Below.drew ?_) | (refine Below.alloc ?_ ?_ _) | (refine Below.setCell ?_ ?_ _) | (simp; done) | (simp; omega) | omega)
          replace BB := Lib.hid (Below.andThen BB.out hW)
          replace HT := Lib.hid (HT.out.next hW)
          clear hb hW HB
          clear fp fq CN
          go_wp2_with fail
          exact ⟨⟨j + 1, by omega, by go_num, by rw [HZ2.out], BB.out⟩, by simp [intOf]; omega⟩
        · have BB := Lib.hid hB
          have HT := Lib.hid (HT0.out.next hB)
          obtain rfl : j = k := by omega
          have CI := Lib.hid (fun w => same_v (show intV (intR (seqS N X j).data.toList ((seqS N X j).size : Int)) = .tuple #[.int .i64 0, .int .i64 0, .int .i64 10] by rw [int_end]; rfl) (int_any (seqS N X j) ((seqS N X j).size : Int) w (by unfold maxLen; omega) (by omega) (by omega)))
          clear hB hlt hj
          go_wp2_with fail
          refine (CI.out _).mono ?_
          rintro e w4 ⟨rfl, hb⟩
          have HB := Lib.hid hb
          have hW : Below wr.heap.size wr w4 := by (repeat' first | exact Below.refl _ _ | assumption | (refine Below.andThen ?_ HB.out) | (exact HB.out.size) | (refine below_drewN ?_ _) | (refine Below.drew ?_) | (refine Below.alloc ?_ ?_ _) | (refine Below.setCell ?_ ?_ _) | (simp; done) | (simp; omega) | omega)
          replace BB := Lib.hid (Below.andThen BB.out hW)
          replace HT := Lib.hid (HT.out.next hW)
          clear hb hW HB
          clear CI
          go_wp2_with fail
          go_ret
          exact ⟨rfl, BB.out⟩
end Go.Proofs.YtncmbgdpmfoohaaDoor
