/- The plain mathematics of a disk with a write cache: no program in sight. -/
import Derived.Laws.CopyOwn
namespace Go.Proofs.Ytgmghfgcpjpigaa

def pickZ (c n : Int) : Int := (if c < 0 then -(c + 1) else c) % n
theorem pick_bd (c n : Int) (h : 0 < n) : 0 ≤ pickZ c n ∧ pickZ c n < n := ⟨Int.emod_nonneg _ (by omega), Int.emod_lt_of_pos _ h⟩

/-- The disk: what is durable, what is visible, the pending writes, whether the power is off, and after how many writes it goes. -/
structure DS where
  sure : List UInt8
  vis : List UInt8
  pend : List (Nat × ByteArray)
  off : Bool
  after : Nat

theorem size_list (x : ByteArray) : x.data.toList.length = x.size := by rw [Array.length_toList]; rfl
/-- s laid over L from place k on -/
abbrev over (L : List UInt8) (k : Nat) (s : List UInt8) : List UInt8 := splice L k s
theorem over_length (L : List UInt8) (k : Nat) (s : List UInt8) (h : k + s.length ≤ L.length) : (over L k s).length = L.length := length_splice L k s h

def within (n : Nat) (at_ len : Int) : Bool := decide (0 ≤ at_) && decide (at_ ≤ n) && decide (0 ≤ len) && decide (len ≤ n - at_)
theorem within_iff (n : Nat) (at_ len : Int) : within n at_ len = true ↔ 0 ≤ at_ ∧ at_ ≤ n ∧ 0 ≤ len ∧ len ≤ n - at_ := by simp [within]; omega

def DS.fresh (n : Nat) : DS := ⟨List.replicate n 0, List.replicate n 0, [], false, 0⟩
def DS.spend (s : DS) : DS := if s.after = 0 then s else if s.after = 1 then { s with off := true, after := 0 } else { s with after := s.after - 1 }
def DS.writeOk (s : DS) (at_ : Int) (x : ByteArray) : Bool := !s.off && within s.sure.length at_ x.size
def DS.writeE (s : DS) (at_ : Int) (x : ByteArray) : Int := if s.off then 331 else if within s.sure.length at_ x.size then 0 else 330
def DS.writeS (s : DS) (at_ : Int) (x : ByteArray) : DS :=
  if s.writeOk at_ x then DS.spend { s with pend := s.pend ++ [(at_.toNat, x)], vis := over s.vis at_.toNat x.data.toList } else s
def DS.powE (s : DS) : Int := if s.off then 331 else 0
def DS.syncS (s : DS) : DS := if s.off then s else { s with sure := s.vis, pend := [] }
def DS.readOk (s : DS) (at_ n : Int) : Bool := !s.off && within s.sure.length at_ n
def DS.readE (s : DS) (at_ n : Int) : Int := if s.off then 331 else if within s.sure.length at_ n then 0 else 330
def DS.readV (s : DS) (at_ n : Int) : ByteArray := if s.readOk at_ n then ⟨((s.vis.drop at_.toNat).take n.toNat).toArray⟩ else ⟨#[]⟩
def DS.cutE (s : DS) (n : Int) : Int := if s.off then 331 else if n < 0 then 2 else 0
def DS.cutS (s : DS) (n : Int) : DS := if s.off then s else if n < 0 then s else if n = 0 then { s with off := true, after := 0 } else { s with after := n.toNat }

/-- the numbers of a list that are those of pending writes -/
def goodK (m : Nat) (k : Int) : Bool := decide (0 ≤ k) && decide (k < m)
def keptB (m : Nat) (ks : List Int) (i : Nat) : Bool := decide (i < m) && ks.contains (i : Int)
def lastK (m : Nat) (ks : List Int) : Int := ks.foldl (fun l k => if goodK m k then max l k else l) (-1)
def tornL (i : Nat) (last torn : Int) (x : List UInt8) : List UInt8 := if (i : Int) = last ∧ 0 ≤ torn then x.take torn.toNat else x
/-- what the first k pending writes leave of the durable content -/
def crashK (pend : List (Nat × ByteArray)) (kept : Nat → Bool) (last torn : Int) : Nat → List UInt8 → List UInt8
  | 0, L => L
  | k + 1, L => match pend[k]? with
    | none => crashK pend kept last torn k L
    | some (a, x) => if kept k then over (crashK pend kept last torn k L) a (tornL k last torn x.data.toList) else crashK pend kept last torn k L
def DS.crashL (s : DS) (ks : List Int) (torn : Int) : List UInt8 := crashK s.pend (keptB s.pend.length ks) (lastK s.pend.length ks) torn s.pend.length s.sure
def DS.crashS (s : DS) (ks : List Int) (torn : Int) : DS := ⟨s.crashL ks torn, s.crashL ks torn, [], false, 0⟩

/-- what all pending writes leave of a content -/
def playL (L : List UInt8) (pend : List (Nat × ByteArray)) : List UInt8 := pend.foldl (fun L p => over L p.1 p.2.data.toList) L
theorem playL_more (L : List UInt8) (pend : List (Nat × ByteArray)) (a : Nat) (x : ByteArray) : playL L (pend ++ [(a, x)]) = over (playL L pend) a x.data.toList := by simp [playL]

/-- The pending writes lie on the disk; the two contents have one length; the visible content is the durable one with all pending writes. -/
structure DS.Good (s : DS) (n : Nat) : Prop where
  sure : s.sure.length = n
  vis : s.vis.length = n
  pend : ∀ p ∈ s.pend, p.1 + p.2.size ≤ n
  after : s.after ≤ 9223372036854775807
  play : s.vis = playL s.sure s.pend

theorem DS.fresh_good (n : Nat) : (DS.fresh n).Good n := ⟨List.length_replicate, List.length_replicate, (fun p hp => by cases hp), Nat.zero_le _, rfl⟩
theorem DS.spend_good {s : DS} {n : Nat} (h : s.Good n) : s.spend.Good n := by
  obtain ⟨h1, h2, h3, h4, h5⟩ := h
  unfold DS.spend
  split
  · exact ⟨h1, h2, h3, h4, h5⟩
  · split
    · exact ⟨h1, h2, h3, Nat.zero_le _, h5⟩
    · exact ⟨h1, h2, h3, Nat.le_trans (Nat.sub_le _ _) h4, h5⟩
theorem DS.writeS_good {s : DS} {n : Nat} (h : s.Good n) (at_ : Int) (x : ByteArray) : (s.writeS at_ x).Good n := by
  unfold DS.writeS
  split
  · rename_i hw
    simp only [DS.writeOk, Bool.and_eq_true, within_iff, h.sure] at hw
    refine DS.spend_good ⟨h.sure, ?_, ?_, h.after, (congrArg (fun L => over L at_.toNat x.data.toList) h.play).trans (playL_more _ _ _ _).symm⟩
    · show (over _ _ _).length = n
      rw [over_length _ _ _ (by rw [h.vis]; have := size_list x
                                omega), h.vis]
    · intro p hp
      rcases List.mem_append.1 hp with hp | hp
      · exact h.pend p hp
      · obtain rfl := List.mem_singleton.1 hp
        show at_.toNat + x.size ≤ n
        omega
  · exact h
theorem DS.syncS_good {s : DS} {n : Nat} (h : s.Good n) : s.syncS.Good n := by
  unfold DS.syncS
  split
  · exact h
  · exact ⟨h.vis, h.vis, by simp, h.after, rfl⟩
theorem DS.cutS_good {s : DS} {n : Nat} (h : s.Good n) (k : Int) (hk : k ≤ 9223372036854775807) : (s.cutS k).Good n := by
  unfold DS.cutS
  split
  · exact h
  · split
    · exact h
    · split
      · exact ⟨h.sure, h.vis, h.pend, Nat.zero_le _, h.play⟩
      · exact ⟨h.sure, h.vis, h.pend, show k.toNat ≤ _ by omega, h.play⟩
theorem tornL_length (i : Nat) (last torn : Int) (x : List UInt8) : (tornL i last torn x).length ≤ x.length := by
  unfold tornL
  split
  · simp; omega
  · exact Nat.le_refl _
theorem crashK_length {pend : List (Nat × ByteArray)} {kept : Nat → Bool} {last torn : Int} {n : Nat} {L : List UInt8} (hL : L.length = n) (hp : ∀ p ∈ pend, p.1 + p.2.size ≤ n) : ∀ k, (crashK pend kept last torn k L).length = n
  | 0 => hL
  | k + 1 => by
    have ih := crashK_length (kept := kept) (last := last) (torn := torn) hL hp k
    unfold crashK
    split
    · exact ih
    · rename_i a x he
      split
      · have h1 := hp _ (List.mem_of_getElem? he)
        have h2 := tornL_length k last torn x.data.toList
        have h3 := size_list x
        simp only at h1
        rw [over_length _ _ _ (by rw [ih]; omega), ih]
      · exact ih
theorem DS.crashS_good {s : DS} {n : Nat} (h : s.Good n) (ks : List Int) (torn : Int) : (s.crashS ks torn).Good n :=
  ⟨crashK_length h.sure h.pend _, crashK_length h.sure h.pend _, (fun p hp => by cases hp), Nat.zero_le _, rfl⟩

/-! ### All writes survive, or some -/
theorem crashK_congr {pend : List (Nat × ByteArray)} {kept kept' : Nat → Bool} {last torn : Int} {L : List UInt8} : ∀ k, (∀ i, i < k → kept i = kept' i) → crashK pend kept last torn k L = crashK pend kept' last torn k L
  | 0, _ => rfl
  | k + 1, h => by
    have ih := crashK_congr (pend := pend) (last := last) (torn := torn) (L := L) k (fun i hi => h i (by omega))
    unfold crashK
    rw [ih, h k (by omega)]
theorem crashK_front {pend : List (Nat × ByteArray)} {kept : Nat → Bool} {last torn : Int} {L : List UInt8} (p : Nat × ByteArray) : ∀ k, k ≤ pend.length → crashK (pend ++ [p]) kept last torn k L = crashK pend kept last torn k L
  | 0, _ => rfl
  | k + 1, h => by
    have ih := crashK_front (pend := pend) (kept := kept) (last := last) (torn := torn) (L := L) p k (by omega)
    unfold crashK
    have e : (pend ++ [p])[k]? = pend[k]? := List.getElem?_append_left (by omega)
    rw [ih, e]
theorem crashK_all {kept : Nat → Bool} {last torn : Int} {L : List UInt8} (ht : torn < 0) : ∀ (m : Nat) (pend : List (Nat × ByteArray)), pend.length = m → (∀ i, i < m → kept i = true) → crashK pend kept last torn m L = playL L pend
  | 0, pend, h, _ => by
    obtain rfl := List.eq_nil_of_length_eq_zero h
    rfl
  | m + 1, pend, h, hk => by
    obtain ⟨q, p, rfl⟩ : ∃ q p, pend = q ++ [p] := ⟨pend.dropLast, pend.getLast (by intro e; simp [e] at h), (List.dropLast_concat_getLast _).symm⟩
    have hq : q.length = m := by simpa using h
    have ih := crashK_all (last := last) (L := L) ht m q hq (fun i hi => hk i (by omega))
    unfold crashK
    rw [crashK_front p m (by omega), ih, hk m (by omega), ← hq, List.getElem?_concat_length, playL_more]
    have e : ¬ (0 ≤ torn) := by omega
    simp [tornL, e]

/-- the kept numbers below k, the greatest first; the greatest of them -/
def numsF (kept : Nat → Bool) : Nat → List Int
  | 0 => []
  | k + 1 => if kept k then (k : Int) :: numsF kept k else numsF kept k
def lastF (kept : Nat → Bool) : Nat → Int
  | 0 => -1
  | k + 1 => if kept k then (k : Int) else lastF kept k
theorem numsF_mem (kept : Nat → Bool) (x : Int) : ∀ k, x ∈ numsF kept k ↔ ∃ i : Nat, x = i ∧ i < k ∧ kept i = true
  | 0 => by simp [numsF]
  | k + 1 => by
    have ih := numsF_mem kept x k
    unfold numsF
    split
    · rename_i hk
      rw [List.mem_cons, ih]
      constructor
      · rintro (rfl | ⟨i, rfl, h1, h2⟩)
        · exact ⟨k, rfl, by omega, hk⟩
        · exact ⟨i, rfl, by omega, h2⟩
      · rintro ⟨i, rfl, h1, h2⟩
        by_cases e : i = k
        · exact .inl (by rw [e])
        · exact .inr ⟨i, rfl, by omega, h2⟩
    · rename_i hk
      rw [ih]
      constructor
      · rintro ⟨i, rfl, h1, h2⟩
        exact ⟨i, rfl, by omega, h2⟩
      · rintro ⟨i, rfl, h1, h2⟩
        by_cases e : i = k
        · subst e
          exact absurd h2 hk
        · exact ⟨i, rfl, by omega, h2⟩
theorem numsF_contains (kept : Nat → Bool) (k i : Nat) : (numsF kept k).contains (i : Int) = (decide (i < k) && kept i) := by
  rw [Bool.eq_iff_iff, List.contains_iff_mem, numsF_mem]
  constructor
  · rintro ⟨j, h, h1, h2⟩
    obtain rfl : i = j := by omega
    simp [h1, h2]
  · intro h
    simp at h
    exact ⟨i, rfl, h⟩
theorem fold_stays {m : Nat} {l : Int} : ∀ {ks : List Int}, (∀ k ∈ ks, k ≤ l) → ks.foldl (fun l k => if goodK m k then max l k else l) l = l
  | [], _ => rfl
  | k :: ks, h => by
    have h1 := h k List.mem_cons_self
    rw [List.foldl_cons]
    have e : (if goodK m k then max l k else l) = l := by split <;> omega
    rw [e]
    exact fold_stays fun j hj => h j (List.mem_cons_of_mem _ hj)
theorem lastK_nums (kept : Nat → Bool) (m : Nat) : ∀ k, k ≤ m → lastK m (numsF kept k) = lastF kept k
  | 0, _ => rfl
  | k + 1, h => by
    have ih := lastK_nums kept m k (by omega)
    unfold numsF lastF
    split
    · have e : goodK m (k : Int) = true := by simp [goodK]; omega
      unfold lastK
      rw [List.foldl_cons, e, if_pos rfl, show max (-1 : Int) (k : Int) = k by omega]
      refine fold_stays fun j hj => ?_
      obtain ⟨i, rfl, h1, _⟩ := (numsF_mem kept j k).1 hj
      omega
    · exact ih
theorem crashL_nums (s : DS) (kept : Nat → Bool) (torn : Int) : s.crashL (numsF kept s.pend.length) torn = crashK s.pend kept (lastF kept s.pend.length) torn s.pend.length s.sure := by
  unfold DS.crashL
  rw [lastK_nums _ _ _ (Nat.le_refl _)]
  refine crashK_congr _ fun i hi => ?_
  rw [keptB, numsF_contains]
  simp [hi]
theorem crashL_none (s : DS) (torn : Int) : s.crashL [] torn = s.sure := by
  unfold DS.crashL
  have key : ∀ k, crashK s.pend (keptB s.pend.length []) (lastK s.pend.length []) torn k s.sure = s.sure := by
    intro k
    induction k with
    | zero => rfl
    | succ k ih =>
      unfold crashK
      rw [ih]
      split
      · rfl
      · simp [keptB]
  exact key _
theorem crashL_all {s : DS} {n : Nat} (h : s.Good n) (ks : List Int) (torn : Int) (ht : torn < 0) (hk : ∀ i : Nat, i < s.pend.length → ks.contains (i : Int) = true) : s.crashL ks torn = s.vis := by
  rw [h.play]
  exact crashK_all ht _ _ rfl fun i hi => by simp [keptB, hi]; simpa using hk i hi
end Go.Proofs.Ytgmghfgcpjpigaa
