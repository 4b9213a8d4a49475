/- The reference's disk in memory, and its small calls. -/
import Derived.Test.YtgmghfgcpjpigaaDiskFrame
import Derived.Laws.AppendOwnNone
namespace Go.Proofs.Ytgmghfgcpjpigaa
open Go.RowKit

theorem wpList_append_src {P : Program} {w : World} {ops : Array Oper} {rest : List Oper} {o : Oper} {a : Act} {Q : Exit → Act → World → Prop} (hgd : o.guard = none) (s x : Operand) (t : TypeId)
    (ho : o.op = .call { callee := .builtin .append, args := #[s, x], argTypes := #[t, t] })
    (base : Nat) (e : TypeId) (i : TypeInfo) (z : Value) (bytes : Nat) (ht : P.underlying t = some (.slice e)) (hi : P.info? e = some i) (hz : i.zero = some z)
    (hsize : i.size = 1) (hby : i.bytes = bytes) (hzs : z.cells.size = 1)
    (v : Value) (n : Nat) (xs : List Value) (hs : a.eval s = v) (hown : w.ownsRow base e 1 v n xs)
    (b2 : Nat) (u : Value) (m : Nat) (news : List Value) (hx : a.eval x = u) (hsrc : w.ownsRow b2 e 1 u m news) (h1 : ∀ u ∈ news, u.oneCell' = true)
    (h63 : n + m ≤ maxLen) (hbytes : (n + m) * bytes ≤ 140737488355328) (hbase : base ≤ w.heap.size)
    (h : ∀ v' w', w'.ownsRow base e 1 v' (n + m) (xs ++ news) → w.grownBy w' v.ownBlock → (v'.ownBlock = v.ownBlock ∨ v'.ownBlock = some w.heap.size) → wpList P ops Q rest (a.put o.dst v') w') :
    wpList P ops Q (o :: rest) a w := by
  rcases hsrc.2 with ⟨rfl, rfl⟩ | ⟨g, cap, cur, rfl, _⟩
  · obtain rfl : news = [] := List.eq_nil_of_length_eq_zero (by simpa using hsrc.1)
    exact wpList_append_own_none hgd s x t ho base e i 1 ht hi v n xs hs hown hx (h v w (by simpa using hown) ⟨rfl, rfl, rfl, Nat.le_refl _, fun _ _ _ => rfl⟩ (.inl rfl))
  · exact wpList_append_own_at w hgd s x t ho base e i z 1 bytes ht hi hz hsize hby hzs (by decide) v n xs hs hown ⟨g, 0, none⟩ m cap news hx hsrc.1 (hsrc.cells (g := g) rfl) h1 h63 hbytes hbase
      (fun v' w' h1 h2 _ h3 => h v' w' h1 h2 h3)

/-- The reference's disk at block R, its content at the head of block G, its pending writes lv. -/
structure RefAt (w : World) (R G sc : Nat) (lv : Value) (n : Nat) (s : DS) : Prop where
  head : Row w R 43 [.slice (some ⟨G, 0, none⟩) n sc, lv, .bool s.off, .int .i64 s.after]
  sure : w.ownsRow 0 5 1 (.slice (some ⟨G, 0, none⟩) n sc) n (s.sure.map byteV)
  pend : w.ownsRow 0 71 2 lv s.pend.length (pendC s.pend)
  good : s.Good n
  room : 1 ≤ n ∧ n ≤ 4194304
def FootR (R G : Nat) (lv : Value) (k : Nat) : Prop := k = R ∨ k = G ∨ lv.ownBlock = some k
def RefD (w : World) (F : Nat → Prop) (R n : Nat) (s : DS) : Prop := ∃ G sc lv, RefAt w R G sc lv n s ∧ F = FootR R G lv
section
variable {w w' : World} {R G sc n : Nat} {lv : Value} {s : DS} {F S : Nat → Prop}
theorem own_row_ne {b0 m sz b : Nat} {e t : TypeId} {C : List Value} {v : Value} {xs : List Value} (h : w.ownsRow b0 e sz v m xs) (hR : Row w b t C) (ht : t ≠ e) : v.ownBlock ≠ some b := by
  intro hk
  rcases h.2 with ⟨rfl, _⟩ | ⟨g, cap, cur, rfl, _, h5, _⟩
  · cases hk
  · simp only [Value.ownBlock, Option.some.injEq] at hk
    subst hk
    have := hR.symm.trans h5
    simp at this
    exact ht this.2
theorem own_own_ne {b0 b1 m m' sz sz' g : Nat} {e e' : TypeId} {v v' : Value} {xs xs' : List Value} (h : w.ownsRow b0 e sz v m xs) (h' : w.ownsRow b1 e' sz' v' m' xs') (he : e ≠ e') (hg : v.ownBlock = some g) : v'.ownBlock ≠ some g := by
  intro hk
  rcases h.2 with ⟨rfl, _⟩ | ⟨g1, cap, cur, rfl, _, h5, _⟩
  · cases hg
  · rcases h'.2 with ⟨rfl, _⟩ | ⟨g2, cap', cur', rfl, _, h6, _⟩
    · cases hk
    · simp only [Value.ownBlock, Option.some.injEq] at hk hg
      subst hk
      subst hg
      have := h5.symm.trans h6
      simp at this
      exact he this.2
theorem RefAt.ne (h : RefAt w R G sc lv n s) : G ≠ R ∧ lv.ownBlock ≠ some R ∧ lv.ownBlock ≠ some G :=
  ⟨fun e => own_row_ne h.sure h.head (by decide) (by rw [← e]; rfl), own_row_ne h.pend h.head (by decide), own_own_ne h.sure h.pend (by decide) rfl⟩
theorem RefAt.lt (h : RefAt w R G sc lv n s) : ∀ k, FootR R G lv k → k < w.heap.size := by
  rintro k (rfl | rfl | hk)
  · exact h.head.lt
  · exact (h.sure.lt k rfl).2
  · exact (h.pend.lt k hk).2
theorem RefAt.keep (h : RefAt w R G sc lv n s) (hk : ∀ k, FootR R G lv k → w'.heap[k]? = w.heap[k]?) : RefAt w' R G sc lv n s :=
  ⟨h.head.same (hk _ (.inl rfl)), ownsRow_same h.sure (fun g hg => hk g (.inr (.inl (by cases hg; rfl)))), ownsRow_same h.pend (fun g hg => hk g (.inr (.inr hg))), h.good, h.room⟩
theorem RefD.keep (h : RefD w F R n s) (hk : ∀ k, F k → w'.heap[k]? = w.heap[k]?) : RefD w' F R n s := by
  obtain ⟨G, sc, lv, h, rfl⟩ := h
  exact ⟨G, sc, lv, h.keep hk, rfl⟩
theorem RefD.lt (h : RefD w F R n s) : ∀ k, F k → k < w.heap.size := by
  obtain ⟨G, sc, lv, h, rfl⟩ := h
  exact h.lt
theorem RefD.next (h : RefD w F R n s) (hb : Below w.heap.size w w') : RefD w' F R n s := h.keep (fun k hk => hb.block k (h.lt k hk))
theorem RefD.only (h : RefD w F R n s) (hb : Only S w w') (hS : ∀ k, S k → ¬ F k) : RefD w' F R n s := h.keep (fun k hk => hb.block k (h.lt k hk) (fun hs => hS k hs hk))
theorem RefD.good (h : RefD w F R n s) : s.Good n := by
  obtain ⟨G, sc, lv, h, rfl⟩ := h
  exact h.good
end
def RStep (w w' : World) (F : Nat → Prop) (R n : Nat) (s' : DS) : Prop := Only F w w' ∧ ∃ F', RefD w' F' R n s' ∧ ∀ k, F' k → F k ∨ w.heap.size ≤ k
theorem RStep.same {w : World} {F : Nat → Prop} {R n : Nat} {s : DS} (h : RefD w F R n s) : RStep w w F R n s := ⟨Only.refl _ _, F, h, fun _ hk => .inl hk⟩
theorem ref_done {w w' : World} {R G sc G' sc' n : Nat} {lv lv' : Value} {s s' : DS} (h : RefAt w R G sc lv n s) (O : Only (FootR R G lv) w w') (hg : G' = G ∨ w.heap.size ≤ G') (ho : lv'.ownBlock = lv.ownBlock ∨ lv'.ownBlock = none ∨ ∃ k, lv'.ownBlock = some k ∧ w.heap.size ≤ k)
    (h' : RefAt w' R G' sc' lv' n s') : RStep w w' (FootR R G lv) R n s' := by
  refine ⟨O, FootR R G' lv', ⟨G', sc', lv', h', rfl⟩, ?_⟩
  rintro k (rfl | rfl | hk)
  · exact .inl (.inl rfl)
  · exact hg.elim (fun e => .inl (.inr (.inl e))) .inr
  · rcases ho with e | e | ⟨j, e, hj⟩
    · exact .inl (.inr (.inr (e ▸ hk)))
    · rw [e] at hk
      cases hk
    · rw [e] at hk
      cases hk
      exact .inr hj
theorem row4 {w : World} {D : Nat} {c0 c1 c2 c3 : Value} {t : TypeId} (h : Row w D t [c0, c1, c2, c3]) : w.cell? ⟨D, 0, none⟩ = some c0 ∧ w.cell? ⟨D, 1, none⟩ = some c1 ∧ w.cell? ⟨D, 2, none⟩ = some c2 ∧ w.cell? ⟨D, 3, none⟩ = some c3 ∧ ∀ j, w.frozen? ⟨D, j, none⟩ = false :=
  ⟨h.cell 0, h.cell 1, h.cell 2, h.cell 3, h.frozen⟩

set_option maxRecDepth 100000 in
set_option maxHeartbeats 1000000 in
theorem apply_any (b n sc a : Nat) (L : List UInt8) (s : ByteArray) (w : World) (h : w.ownsRow 0 5 1 (.slice (some ⟨b, 0, none⟩) n sc) n (L.map byteV)) (hL : L.length = n) (hn : n ≤ 4194304) (hfit : a + s.size ≤ n) :
    Calls Try.prog 40 #[.slice (some ⟨b, 0, none⟩) n sc, .int .i64 a, .string s] w fun e w' => e = .returned (.tuple #[]) ∧ Only (fun j => j = b) w w' ∧ w'.ownsRow 0 5 1 (.slice (some ⟨b, 0, none⟩) n sc) n ((over L a s.data.toList).map byteV) := by
  have h0 : w.ownsRow 0 5 1 (.slice (some ⟨b, 0, none⟩) n sc) n ((over L a (s.data.toList.take 0)).map byteV) := by simpa [splice] using h
  have HR := Lib.hid h0
  clear h h0
  go_enter Try.func40, Try.ntmps40
  go_wp2_with fail
  go_loopw [6] (fun i wr => ∃ k : Nat, k ≤ s.size ∧ i = .int .i64 k ∧ Only (fun j => j = b) w wr ∧ wr.ownsRow 0 5 1 (.slice (some ⟨b, 0, none⟩) n sc) n ((over L a (s.data.toList.take k)).map byteV)) (fun i _ => s.size - (intOf i).toNat)
  case atStart => exact ⟨0, Nat.zero_le _, rfl, Only.refl _ _, HR.out⟩
  case round =>
    obtain ⟨k, hk, rfl, hO, hR⟩ := hrel
    by_cases hlt : k < s.size
    · have i1 := fun (w : World) => run_index_at (P := Try.prog) w 9 s .i64 k rfl hlt
      have sl := size_list s
      have hc := hR.cellAt (a + k) (by omega)
      rw [List.getElem?_eq_getElem (by rw [List.length_map, over_length _ _ _ (by simp; omega)]; omega)] at hc
      obtain ⟨old, ho⟩ : ∃ old, wr.cell? ⟨b, a + k, none⟩ = some old := ⟨_, hc⟩
      have hf := hR.frozenAt (a + k)
      have K := Lib.hid (And.intro hO (And.intro hR sl))
      clear hO hR hc sl
      go_wp2_with fail
      go_roundw
      case rel =>
        obtain ⟨hO, hR, sl⟩ := K.out
        refine ⟨k + 1, by omega, by go_num, Only.setCell hO ?_ _, ?_⟩
        · exact .inl rfl
        · rw [← over_more L a k _ (by omega) (by omega)]
          exact (hR.stored (a + k) _).1
      case measure => simp [intOf]; omega
    · obtain rfl : k = s.size := by omega
      rw [List.take_of_length_le (by rw [size_list]; omega)] at hR
      have K := Lib.hid (And.intro hO hR)
      clear hO hR hlt hk
      go_wp2_with fail
      go_end0
      exact ⟨rfl, K.out⟩

theorem own_pos {w : World} {b0 e sz k : Nat} {v : Value} {xs : List Value} (h : w.ownsRow b0 e sz v k xs) (hk : 1 ≤ k) : ∃ g cap, v = .slice (some ⟨g, 0, none⟩) k cap ∧ b0 ≤ g := by
  rcases h.2 with ⟨_, e⟩ | ⟨g, cap, cur, e, hb, _⟩
  · omega
  · exact ⟨g, cap, e, hb⟩
theorem playL_length {L : List UInt8} {n : Nat} : ∀ {pend : List (Nat × ByteArray)}, L.length = n → (∀ p ∈ pend, p.1 + p.2.size ≤ n) → (playL L pend).length = n
  | [], h, _ => h
  | p :: pend, h, hp => by
    have h1 := hp p List.mem_cons_self
    show (playL (over L p.1 p.2.data.toList) pend).length = n
    exact playL_length (by rw [over_length _ _ _ (by rw [size_list]; omega)]; exact h) (fun q hq => hp q (List.mem_cons_of_mem _ hq))
theorem take_pend {l : List (Nat × ByteArray)} {k : Nat} {p : Nat × ByteArray} (h : l[k]? = some p) : l.take (k + 1) = l.take k ++ [p] := by rw [List.take_add_one, h]; rfl
end Go.Proofs.Ytgmghfgcpjpigaa
