/- SHA-256: the sum. -/
import Derived.Test.YtnhlhoijajhcjaaDoorDigE
set_option linter.unusedVariables false
set_option linter.unusedSimpArgs false
set_option linter.unnecessarySimpa false
namespace Go.Proofs.YtnhlhoijajhcjaaDoor
open Go.RowKit Go.Shelf
attribute [local go_sem] Oper.semAt_some

set_option maxHeartbeats 400000 in
theorem blocks_any (s : ByteArray) (w : World) : Calls Tryd.prog 77 #[.string s] w fun e w' => e = .returned (.func (.func 84) #[] #[.pointer (some ⟨w.heap.size, 0, none⟩)]) ∧ w' = w.alloc (.cells #[.string s] 9) := by
  go_enter Tryd.func77, Tryd.ntmps77
  go_wp2
  go_ret
  exact ⟨rfl, rfl⟩

/-! ### lists of blocks, each of 64 bytes -/
theorem over_more (s : Sha.St) (bs : List (List Nat)) (b : List Nat) : Sha.over s (bs ++ [b]) = Sha.mix (Sha.over s bs) (Sha.schedule b) := by simp [Sha.over]
theorem start_ok : Sha.start.Ok := Sha.St.Ok.of (by decide)
theorem plus_ok (s t : Sha.St) : (Sha.plus s t).Ok := Sha.St.Ok.of ⟨Nat.mod_lt _ (by decide), Nat.mod_lt _ (by decide), Nat.mod_lt _ (by decide), Nat.mod_lt _ (by decide), Nat.mod_lt _ (by decide), Nat.mod_lt _ (by decide), Nat.mod_lt _ (by decide), Nat.mod_lt _ (by decide)⟩
theorem over_ok : ∀ (bs : List (List Nat)), (Sha.over Sha.start bs).Ok := by
  intro bs
  rcases List.eq_nil_or_concat bs with rfl | ⟨l, b, rfl⟩
  · exact start_ok
  · rw [List.concat_eq_append, over_more]
    exact plus_ok _ _
theorem octet_lt (w : Nat) : ∀ x ∈ Sha.octet w, x < 256 := by
  intro x hx
  simp [Sha.octet] at hx
  omega
theorem octets_lt (ws : List Nat) : ∀ x ∈ Sha.octets ws, x < 256 := by
  intro x hx
  simp only [Sha.octets, List.mem_flatten, List.mem_map] at hx
  obtain ⟨l, ⟨w, _, rfl⟩, hx⟩ := hx
  exact octet_lt w x hx
theorem last_ok (rest : List Nat) (n : Nat) (hl : rest.length < 64) (hb : ∀ x ∈ rest, x < 256) : ∀ b ∈ Sha.last rest n, b.length = 64 ∧ ∀ x ∈ b, x < 256 := by
  intro b h
  have h8 : (Sha.octets [n * 8 / 4294967296 % 4294967296, n * 8 % 4294967296]).length = 8 := by rw [octets_length]; rfl
  have ho := octets_lt [n * 8 / 4294967296 % 4294967296, n * 8 % 4294967296]
  unfold Sha.last at h
  dsimp only at h
  obtain ⟨L, hL⟩ : ∃ L, L = Sha.octets [n * 8 / 4294967296 % 4294967296, n * 8 % 4294967296] := ⟨_, rfl⟩
  rw [← hL] at h h8 ho
  clear hL
  split at h
  · rename_i h56
    rw [List.mem_singleton.1 h]
    refine ⟨by simp [h8]; omega, fun x hx => ?_⟩
    simp only [List.mem_append, List.mem_cons, List.mem_replicate] at hx
    rcases hx with (hx | hx | ⟨_, hx⟩) | hx
    · exact hb x hx
    · omega
    · omega
    · exact ho x hx
  · rcases List.mem_cons.1 h with rfl | h
    · refine ⟨by simp; omega, fun x hx => ?_⟩
      simp only [List.mem_append, List.mem_cons, List.mem_replicate] at hx
      rcases hx with hx | rfl | ⟨_, rfl⟩
      · exact hb x hx
      · decide
      · decide
    · rw [List.mem_singleton.1 h]
      refine ⟨by simp [h8], fun x hx => ?_⟩
      simp only [List.mem_append, List.mem_replicate] at hx
      rcases hx with ⟨_, rfl⟩ | hx
      · decide
      · exact ho x hx
theorem blocks_ok (s : ByteArray) : ∀ b ∈ Sha.blocks (natBytes s), b.length = 64 ∧ ∀ x ∈ b, x < 256 := by
  intro b hb
  have hlt := natBytes_lt s
  rw [blocks_fulls] at hb
  rcases List.mem_append.1 hb with h | h
  · obtain ⟨i, hi, rfl⟩ := List.mem_map.1 h
    have hi := List.mem_range.1 hi
    refine ⟨by rw [List.length_take, List.length_drop]; omega, fun x hx => hlt x (List.mem_of_mem_drop (List.mem_of_mem_take hx))⟩
  · refine last_ok _ _ ?_ (fun x hx => hlt x (List.mem_of_mem_drop hx)) b h
    rw [List.length_drop]
    omega
theorem spread_len (k : Nat) : ∀ ws : List Nat, (Sha.spread ws k).length = ws.length + k := by
  induction k with
  | zero => intro ws; rfl
  | succ k ih => intro ws; rw [Sha.spread, ih]; simp; omega
theorem spread_lt (k : Nat) : ∀ ws : List Nat, (∀ x ∈ ws, x < 2 ^ 32) → ∀ x ∈ Sha.spread ws k, x < 2 ^ 32 := by
  induction k with
  | zero => intro ws h; exact h
  | succ k ih =>
    intro ws h
    refine ih _ fun x hx => ?_
    rcases List.mem_append.1 hx with hx | hx
    · exact h x hx
    · rw [List.mem_singleton.1 hx]
      exact Nat.mod_lt _ (by decide)
theorem schedule_len (b : List Nat) : (Sha.schedule b).length = 64 := by simp [Sha.schedule, spread_len]
theorem schedule_lt (b : List Nat) (hb : ∀ x ∈ b, x < 256) : ∀ x ∈ Sha.schedule b, x < 2 ^ 32 := by
  refine spread_lt 48 _ fun x hx => ?_
  obtain ⟨i, _, rfl⟩ := List.mem_map.1 hx
  exact word_lt hb i
theorem stC_len (s : Sha.St) : (stC s).length = 8 := rfl
theorem stC_one (s : Sha.St) : (stC s).toArray.all (·.oneCell') = true := by simp [stC, Value.oneCell']

/-- the bytes of a state's words -/
theorem octets_eight (b : Nat) (t : TypeId) (st : Sha.St) (w : World) (hR : Row w b t (stC st)) (hs : st.Ok) :
    Calls Tryd.prog 80 #[.slice (some ⟨b, 0, none⟩) 8 8] w fun e w' => ∃ g cap, e = .returned (.slice (some ⟨g, 0, none⟩) 32 cap) ∧ Below w.heap.size w w' ∧
      (convert 56 9 (.slice (some ⟨g, 0, none⟩) 32 cap)).run Tryd.prog w' = .ok (.string ⟨((Sha.octets st.list).map UInt8.ofNat).toArray⟩) w' := by
  refine (octets_any b 8 t st.list w hR (by simp [Sha.St.list]) hs).mono ?_
  rintro e w' ⟨v, rfl, hb, how⟩
  have hl : (Sha.octets st.list).length = 32 := by rw [octets_length]; rfl
  rw [hl] at how
  rcases how.2 with ⟨_, h0⟩ | ⟨g, cap, cur, rfl, hg, _⟩
  · cases h0
  · refine ⟨g, cap, rfl, hb, ?_⟩
    have hc := how.cells (g := g) rfl
    have hlt := octets_lt st.list
    have := run_convert_bytes_back (P := Tryd.prog) w' 56 9 5 ⟨g, 0, none⟩ cap ((Sha.octets st.list).map UInt8.ofNat) Tryd.underlying56 Tryd.underlying5 Tryd.underlying9 (fun j hj => by
      have hj' : j < (Sha.octets st.list).length := by simpa using hj
      refine hc j _ ?_
      rw [List.getElem?_map, List.getElem?_eq_getElem hj', Option.map_some]
      have h1 := hlt _ (List.getElem_mem hj')
      simp
      omega)
    rw [List.length_map, hl] at this
    exact this
set_option maxRecDepth 100000 in
set_option maxHeartbeats 2000000 in
theorem Sum_any (s : ByteArray) (w : World) (T : Tab w) (hs : s.size ≤ 2 ^ 40) :
    Calls Tryd.prog 74 #[.string s] w fun e w' => e = .returned (.string (sumS s)) ∧ Below w.heap.size w w' := by
  have HT := Lib.hid T
  clear T
  refine (callsIn_wide (n := 3)).1 ?_
  refine callsIn_of_wp_marks Tryd.func74 rfl trivial ?_
  simp only [Tryd.ntmps74, List.size_toArray, List.length_cons, List.length_nil, Nat.reduceAdd, Nat.reduceSub, Array.replicate_succ, Array.replicate_zero, List.push_toArray, List.append_toArray, List.nil_append, List.cons_append]
  gi_wp2_with (refine ⟨trivial, ?_⟩; gi_at_call 77; refine (callsIn_wide.2 (blocks_any _ _)).mono ?_; rintro e w' ⟨rfl, rfl⟩)
  obtain ⟨w2, e2⟩ : ∃ w2, w2 = (w.alloc (.cells #[.int .u32 1779033703, .int .u32 3144134277, .int .u32 1013904242, .int .u32 2773480762, .int .u32 1359893119, .int .u32 2600822924, .int .u32 528734635, .int .u32 1541459225] 116)).alloc (.cells #[.string s] 9) := ⟨_, rfl⟩
  rw [← e2]
  have S2 : w2.heap.size = w.heap.size + 2 := by rw [e2]; simp
  have R0 : Row w2 w.heap.size 116 (stC Sha.start) := by rw [e2]; exact (Row.new w _ (stC Sha.start)).alloc _
  have R1 : Row w2 (w.heap.size + 1) 9 [.string s] := by
    have h := Row.new (w.alloc (.cells #[.int .u32 1779033703, .int .u32 3144134277, .int .u32 1013904242, .int .u32 2773480762, .int .u32 1359893119, .int .u32 2600822924, .int .u32 528734635, .int .u32 1541459225] 116)) 9 [.string s]
    rw [World.size_alloc] at h
    rw [e2]
    exact h
  have B2 : Below w.heap.size w w2 := by rw [e2]; (repeat' first | exact Below.refl _ _ | assumption | (refine below_drewN ?_ _) | (refine Below.drew ?_) | (refine Below.alloc ?_ ?_ _) | (refine Below.setCell ?_ ?_ _) | (simp; done) | (simp; omega) | omega)
  clear e2
  have keep : ∀ {X Y : World} {row : Option Nat} {b : Nat} {t : TypeId} {V : List Value}, Row X b t V → X.grownBy Y row → (∀ r, row = some r → w.heap.size + 2 ≤ r) → b < w.heap.size + 2 → Row Y b t V := fun hr hg hrow hb =>
    (hg.block _ hr.lt (fun e => by have := hrow _ e.symm; omega)).trans hr
  refine wpIn_rangeFunc_cellY rfl (by omega) (gf := 84) (lb := #[.pointer (some ⟨w.heap.size + 1, 0, none⟩)]) rfl trivial (enters_of Tryd.func84 (by kernel_rfl) rfl) (w.heap.size + 4) (by rw [S2]; omega) (blocks_seq 2 (by omega) (w.heap.size + 4) (w.heap.size + 1) s hs) (fun o o' => by simp [S2]) (fun _ => rfl)
    (fun pre W => Row W w.heap.size 116 (stC (Sha.over Sha.start pre)) ∧ Row W (w.heap.size + 1) 9 [.string s] ∧ Below w.heap.size w W)
    (fun _ _ _ => False)
    (fun s X Y row ⟨h0, h1, hb⟩ hg hrow => ⟨keep h0 hg (fun r e => by have := (hrow r e).1; omega) (by omega), keep h1 hg (fun r e => by have := (hrow r e).1; omega) (by omega), hb.grown hg hb.size (fun k e => by have := (hrow k e).1; omega)⟩)
    (fun c s X Y row h _ _ => h)
    (fun s X Y ⟨h0, h1, hb⟩ hg _ => ⟨keep h0 hg (fun r e => by cases e; omega) (by omega), keep h1 hg (fun r e => by cases e; omega) (by omega), hb.grown hg hb.size (fun k e => by cases e; omega)⟩)
    (fun c s X Y h _ _ => h)
    (fun s X h => ⟨h.2.1.cell 0, by omega⟩)
    ⟨R0, R1, B2⟩
    (fun x => .cells (x.map octV).toArray 120)
    (fun x b => { tmps := #[.string s, undef, .string ⟨#[]⟩, .pointer (some ⟨w.heap.size, 0, none⟩), .pointer (some ⟨b, 0, none⟩), .agg #[.int .u32 1779033703, .int .u32 3144134277, .int .u32 1013904242, .int .u32 2773480762, .int .u32 1359893119, .int .u32 2600822924, .int .u32 528734635, .int .u32 1541459225], .string s, .func (.func 84) #[] #[.pointer (some ⟨w.heap.size + 1, 0, none⟩)], .agg (x.map octV).toArray, undef, undef, undef, undef, undef, undef, undef], defers := [] })
    ?assign ?body ?done ?stop
  case assign =>
    intro l x W K hx hK
    have hlx := (blocks_ok s x hx).1
    obtain ⟨Z0, hZ0⟩ : ∃ Z0, Z0 = List.replicate 64 (Value.int .u8 0) := ⟨_, rfl⟩
    have HK := Lib.hid hK
    have SZ := Lib.hid (show (Tryd.prog.info? 120).map (·.size) = some (x.map octV).toArray.size by rw [infoBlock]; simp [hlx])
    have O1 := Lib.hid (show (x.map octV).toArray.all (·.oneCell') = true by simp [Value.oneCell'])
    have LC := Lib.hid (show Z0.toArray.size = (x.map octV).toArray.size by simp [hZ0, hlx])
    have HN := Lib.hid (show (W.alloc (.cells Z0.toArray 120)).heap[W.heap.size]? = some (.cells Z0.toArray 120 (0, 0)) from heap_alloc_last W _)
    have HW := Lib.hid (show (W.alloc (.cells Z0.toArray 120)).setRow W.heap.size (x.map octV).toArray = W.alloc (.cells (x.map octV).toArray 120) from World.setRow_alloc_new _ _ _ _)
    rw [hZ0] at HN LC HW
    clear hK hlx hZ0
    gi_wp2_with (refine wpListIn_store_row rfl _ _ _ rfl W.heap.size (x.map octV).toArray rfl rfl _ _ HN.out SZ.out LC.out O1.out ?_)
    have := HK.out
    rw [← HW.out] at this
    exact this
  case body =>
    rintro l pre x W b ⟨h0, h1, hB⟩ hpre hblk hb1 hb2
    have hx := blocks_ok s x (hpre.subset (show x ∈ pre ++ [x] by simp))
    have hov := over_ok pre
    have hlx := hx.1
    have hT : ∀ W', Below W.heap.size W W' → Tab W' := fun W' h => HT.out.next (Below.andThen hB h)
    have RX : Row W b 120 (x.map octV) := hblk
    have SZ : (Tryd.prog.info? 120).map (·.size) = some (x.map octV).toArray.size := by rw [infoBlock]; simp [hlx]
    have S8 : (Tryd.prog.info? 116).map (·.size) = some (stC (Sha.over Sha.start pre)).toArray.size := by rw [infoState]; rfl
    have S9 : (Tryd.prog.info? 116).map (·.size) = some (stC (Sha.over Sha.start (pre ++ [x]))).toArray.size := by rw [infoState]; rfl
    refine wpIn_block ?_
    refine wpIn_region_kin_tail (m := 4) (by kernel_rfl) (by kernel_rfl) (fun ⟨a, w', h⟩ => h) (by kernel_rfl) W.heap.size 0 (by simp) (fun hk => ?_)
    simp only [List.take_succ_cons, List.take_zero, List.drop_succ_cons, List.drop_zero]
    refine wpQuiet_load_row rfl _ _ rfl w.heap.size rfl _ _ _ _ (fun w' hw' => by obtain ⟨k, rfl⟩ := hw'; exact h0.next k.below) Tryd.underlying116 rfl S8 ?_
    refine wpQuiet_load_row rfl _ _ rfl b rfl _ _ _ _ (fun w' hw' => by obtain ⟨k, rfl⟩ := hw'; exact RX.next k.below) Tryd.underlying120 rfl SZ ?_
    have CS := Lib.hid (fun w => schedule_any x w hx.1 hx.2)
    have CM := Lib.hid (fun (k : Kin W) => mix_any (Sha.over Sha.start pre) (Sha.schedule x) k.it (hT _ k.below) hov (schedule_len x) (schedule_lt x hx.2))
    rw [← over_more] at CM
    have KK := Lib.hid (And.intro h0 (And.intro h1 (And.intro hB RX)))
    clear hk h0 h1 hB RX hT hx hov hlx SZ S8 hblk hpre
    simp only [Act.put, List.setIfInBounds_toArray, List.set_cons_zero, List.set_cons_succ]
    go_big_quiet_step ((go_at_call 79; exact Calls.kin (CS.out _)))
    clear CS
    go_big_quiet_step ((go_at_call 78; exact Calls.kin (CM.out _)))
    clear CM
    refine wpQuiet_nil ?_
    intro W2 hb
    obtain ⟨h0, h1, hB, RX⟩ := KK.out
    refine wpList_store_row rfl _ _ _ rfl w.heap.size (stC (Sha.over Sha.start (pre ++ [x]))).toArray rfl rfl _ _ (h0.next hb) S9 rfl (stC_one _) ?_
    have R2 := h0.next hb
    refine ⟨(below_keeps hb).trans (grown_keeps R2 (setRow_grown _ _ _)), ?_, ?_, ?_, ?_⟩
    · rw [setRow_other _ _ _ _ (by omega)]
      exact hb.block _ (by have := RX.lt; omega)
    · exact R2.setRow _
    · exact (setRow_other _ _ _ _ (by omega)).trans (h1.next hb)
    · exact (Below.andThen hB hb).trans ⟨rfl, rfl, rfl, by simp, fun k hk => setRow_other _ _ k _ (by omega)⟩
  case done =>
    rintro W ⟨h0, h1, hB⟩ hK
    have hok := over_ok (Sha.blocks (natBytes s))
    have CO := Lib.hid (octets_eight w.heap.size _ _ W h0 hok)
    have HS := Lib.hid (show (⟨((Sha.octets (Sha.over Sha.start (Sha.blocks (natBytes s))).list).map UInt8.ofNat).toArray⟩ : ByteArray) = sumS s from rfl)
    rw [HS.out] at CO
    have KK := Lib.hid (And.intro h0 (And.intro hB hK))
    clear h0 h1 hB hK hok
    gi_wp2_with (refine ⟨trivial, ?_⟩; gi_at_call 80; with_reducible refine (callsIn_wide.2 CO.out).mono ?_; rintro e w' ⟨g, cap, rfl, hb, hcv⟩; have HB := Lib.hid hb; clear hb)
    obtain ⟨h0, hB, hK⟩ := KK.out
    have K4 := (HB.out.block w2.heap.size (Array.getElem?_eq_some_iff.1 hK).1).trans hK
    rw [S2] at K4
    refine ⟨by simp, .inl ⟨_, _, rfl, run_takeDeferred K4, ?_⟩⟩
    exact ⟨.string (sumS s), by simp [results, Tryd.results74, go_sem], rfl, (Below.andThen hB HB.out).trans (belowK_b (w := w) (Nat.le_refl _) w' _ _ _ (by omega) K4 rfl rfl)⟩
  case stop =>
    rintro c pre W hpre h
    exact h.elim
end Go.Proofs.YtnhlhoijajhcjaaDoor
