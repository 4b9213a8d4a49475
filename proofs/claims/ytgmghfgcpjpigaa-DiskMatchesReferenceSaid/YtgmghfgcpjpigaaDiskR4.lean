/- The mathematics of the reference's crash: the survivors in a list of their own. -/
import Derived.Test.YtgmghfgcpjpigaaDiskSpec
namespace Go.Proofs.Ytgmghfgcpjpigaa

/-- the first k pending writes that survive, with their numbers -/
def tripK (pend : List (Nat × ByteArray)) (kp : Nat → Bool) : Nat → List (Nat × Nat × ByteArray)
  | 0 => []
  | k + 1 => match pend[k]? with
    | none => tripK pend kp k
    | some (a, x) => if kp k then tripK pend kp k ++ [(k, a, x)] else tripK pend kp k
def survK (pend : List (Nat × ByteArray)) (kp : Nat → Bool) (k : Nat) : List (Nat × ByteArray) := (tripK pend kp k).map (·.2)
/-- what the first k of the survivors leave, the last one torn -/
def crashR (l : List (Nat × ByteArray)) (torn : Int) : Nat → List UInt8 → List UInt8
  | 0, L => L
  | k + 1, L => match l[k]? with
    | none => crashR l torn k L
    | some (a, x) => over (crashR l torn k L) a (if k + 1 = l.length ∧ 0 ≤ torn then x.data.toList.take torn.toNat else x.data.toList)

theorem surv_more {pend : List (Nat × ByteArray)} {kp : Nat → Bool} {k : Nat} {p : Nat × ByteArray} (h : pend[k]? = some p) (hk : kp k = true) : survK pend kp (k + 1) = survK pend kp k ++ [p] := by
  unfold survK
  rw [tripK, h]
  simp [hk]
theorem surv_skip {pend : List (Nat × ByteArray)} {kp : Nat → Bool} {k : Nat} {p : Nat × ByteArray} (h : pend[k]? = some p) (hk : kp k = false) : survK pend kp (k + 1) = survK pend kp k := by
  unfold survK
  rw [tripK, h]
  simp [hk]
theorem trip_mem {pend : List (Nat × ByteArray)} {kp : Nat → Bool} : ∀ {k : Nat} {t : Nat × Nat × ByteArray}, t ∈ tripK pend kp k → t.1 < k ∧ kp t.1 = true ∧ pend[t.1]? = some t.2
  | 0, t, h => by cases h
  | k + 1, t, h => by
    unfold tripK at h
    split at h
    · have := trip_mem h
      exact ⟨by omega, this.2⟩
    · rename_i a x e
      split at h
      · rename_i hk
        rcases List.mem_append.1 h with h | h
        · have := trip_mem h
          exact ⟨by omega, this.2⟩
        · obtain rfl := List.mem_singleton.1 h
          exact ⟨by simp, hk, e⟩
      · have := trip_mem h
        exact ⟨by omega, this.2⟩
theorem trip_has {pend : List (Nat × ByteArray)} {kp : Nat → Bool} : ∀ {k i : Nat} {p : Nat × ByteArray}, i < k → kp i = true → pend[i]? = some p → (i, p) ∈ tripK pend kp k
  | 0, _, _, h, _, _ => by omega
  | k + 1, i, p, h, hk, hp => by
    unfold tripK
    by_cases e : i = k
    · subst e
      rw [hp]
      simp [hk]
    · have ih := trip_has (k := k) (by omega) hk hp
      split
      · exact ih
      · split
        · exact List.mem_append_left _ ih
        · exact ih
theorem trip_sorted {pend : List (Nat × ByteArray)} {kp : Nat → Bool} : ∀ k, (tripK pend kp k).Pairwise (fun s t => s.1 < t.1)
  | 0 => List.Pairwise.nil
  | k + 1 => by
    have ih := trip_sorted (pend := pend) (kp := kp) k
    unfold tripK
    split
    · exact ih
    · split
      · refine List.pairwise_append.2 ⟨ih, List.pairwise_singleton _ _, fun s hs t ht => ?_⟩
        obtain rfl := List.mem_singleton.1 ht
        exact (trip_mem hs).1
      · exact ih
theorem crashK_trip {pend : List (Nat × ByteArray)} {kp : Nat → Bool} {last torn : Int} {L : List UInt8} : ∀ k, crashK pend kp last torn k L = (tripK pend kp k).foldl (fun L t => over L t.2.1 (tornL t.1 last torn t.2.2.data.toList)) L
  | 0 => rfl
  | k + 1 => by
    have ih := crashK_trip (pend := pend) (kp := kp) (last := last) (torn := torn) (L := L) k
    rw [crashK, tripK]
    cases he : pend[k]? with
    | none => exact ih
    | some p =>
      obtain ⟨a, x⟩ := p
      cases hk : kp k
      · simp only [Bool.false_eq_true, if_false]
        exact ih
      · simp only [if_true]
        rw [List.foldl_append, ← ih]
        rfl
theorem lastK_spec (m : Nat) (ks : List Int) : (∀ z ∈ ks, goodK m z = true → z ≤ lastK m ks) ∧ (lastK m ks = -1 ∨ (lastK m ks ∈ ks ∧ goodK m (lastK m ks) = true)) := by
  have key : ∀ (ks : List Int) (l : Int), l ≤ ks.foldl (fun l k => if goodK m k then max l k else l) l ∧ (∀ z ∈ ks, goodK m z = true → z ≤ ks.foldl (fun l k => if goodK m k then max l k else l) l) ∧
      (ks.foldl (fun l k => if goodK m k then max l k else l) l = l ∨ (ks.foldl (fun l k => if goodK m k then max l k else l) l ∈ ks ∧ goodK m (ks.foldl (fun l k => if goodK m k then max l k else l) l) = true)) := by
    intro ks
    induction ks with
    | nil => intro l; exact ⟨Int.le_refl _, (fun z hz => by cases hz), .inl rfl⟩
    | cons k ks ih =>
      intro l
      rw [List.foldl_cons]
      by_cases hg : goodK m k = true
      · rw [if_pos hg]
        obtain ⟨h1, h2, h3⟩ := ih (max l k)
        refine ⟨by omega, fun z hz hzg => ?_, ?_⟩
        · rcases List.mem_cons.1 hz with rfl | hz
          · omega
          · exact h2 z hz hzg
        · rcases h3 with h3 | h3
          · by_cases hlk : l ≤ k
            · right
              rw [h3, show max l k = k by omega]
              exact ⟨List.mem_cons_self, hg⟩
            · left
              rw [h3]
              omega
          · exact .inr ⟨List.mem_cons_of_mem _ h3.1, h3.2⟩
      · rw [if_neg hg]
        obtain ⟨h1, h2, h3⟩ := ih l
        refine ⟨h1, fun z hz hzg => ?_, ?_⟩
        · rcases List.mem_cons.1 hz with rfl | hz
          · exact absurd hzg hg
          · exact h2 z hz hzg
        · exact h3.imp id (fun h => ⟨List.mem_cons_of_mem _ h.1, h.2⟩)
  obtain ⟨_, h2, h3⟩ := key ks (-1)
  exact ⟨h2, h3⟩
/-- Of the survivors the last one in order is the one with the greatest number. -/
theorem trip_last {pend : List (Nat × ByteArray)} {ks : List Int} {m : Nat} (hm : m = pend.length) {k : Nat} {t : Nat × Nat × ByteArray} (ht : (tripK pend (keptB m ks) m)[k]? = some t) :
    ((t.1 : Int) = lastK m ks ↔ k + 1 = (tripK pend (keptB m ks) m).length) := by
  obtain ⟨hlt, hget⟩ := List.getElem?_eq_some_iff.1 ht
  have hmem : t ∈ tripK pend (keptB m ks) m := List.mem_of_getElem? ht
  obtain ⟨t1, t2, t3⟩ := trip_mem hmem
  have tk : (t.1 : Int) ∈ ks := by simp [keptB] at t2; exact t2.2
  obtain ⟨s1, s2⟩ := lastK_spec m ks
  have hle := s1 _ tk (by simp [goodK]; omega)
  have hin : lastK m ks ∈ ks ∧ goodK m (lastK m ks) = true := s2.resolve_left (by omega)
  obtain ⟨i, hi⟩ : ∃ i : Nat, (i : Int) = lastK m ks := ⟨(lastK m ks).toNat, by have := hin.2; simp [goodK] at this; omega⟩
  have him : i < m := by have := hin.2; simp [goodK] at this; omega
  have hik : keptB m ks i = true := by simp [keptB, him]; rw [hi]; exact hin.1
  have hmi := trip_has (pend := pend) him hik (List.getElem?_eq_getElem (by omega))
  obtain ⟨j, hj⟩ := List.getElem?_of_mem hmi
  obtain ⟨hjlt, hjget⟩ := List.getElem?_eq_some_iff.1 hj
  have sorted := trip_sorted (pend := pend) (kp := keptB m ks) m
  have mono : ∀ (a b : Nat) (ha : a < (tripK pend (keptB m ks) m).length) (hb : b < (tripK pend (keptB m ks) m).length), a < b → ((tripK pend (keptB m ks) m)[a]).1 < ((tripK pend (keptB m ks) m)[b]).1 :=
    fun a b ha hb hab => List.pairwise_iff_getElem.1 sorted a b ha hb hab
  have hjl : ∀ b (hb : b < (tripK pend (keptB m ks) m).length), ¬ j < b := by
    intro b hb hjb
    have h1 := mono j b hjlt hb hjb
    rw [hjget] at h1
    have hbm := trip_mem (List.getElem_mem hb)
    have hbk : (((tripK pend (keptB m ks) m)[b]).1 : Int) ∈ ks := by have := hbm.2.1; simp [keptB] at this; exact this.2
    have := s1 _ hbk (by simp [goodK]; have := hbm.1; omega)
    simp at h1
    omega
  have hjlast : j + 1 = (tripK pend (keptB m ks) m).length := by
    have := hjl (j + 1)
    omega
  constructor
  · intro e
    have hti : t.1 = i := by omega
    have : ¬ k < j := fun h => by have := mono k j hlt hjlt h; rw [hget, hjget] at this; simp at this; omega
    have : ¬ j < k := hjl k hlt
    omega
  · intro e
    have : k = j := by omega
    subst this
    rw [hget] at hjget
    rw [hjget]
    exact hi
theorem crashR_eq {pend : List (Nat × ByteArray)} {ks : List Int} {m : Nat} (hm : m = pend.length) (torn : Int) (L : List UInt8) : ∀ k, k ≤ (tripK pend (keptB m ks) m).length →
    crashR (survK pend (keptB m ks) m) torn k L = ((tripK pend (keptB m ks) m).take k).foldl (fun L t => over L t.2.1 (tornL t.1 (lastK m ks) torn t.2.2.data.toList)) L
  | 0, _ => rfl
  | k + 1, h => by
    have ih := crashR_eq (pend := pend) (ks := ks) hm torn L k (by omega)
    have ht : (tripK pend (keptB m ks) m)[k]? = some (tripK pend (keptB m ks) m)[k] := List.getElem?_eq_getElem (by omega)
    obtain ⟨t, et⟩ : ∃ t, t = (tripK pend (keptB m ks) m)[k] := ⟨_, rfl⟩
    rw [← et] at ht
    have hs : (survK pend (keptB m ks) m)[k]? = some t.2 := by unfold survK; rw [List.getElem?_map, ht]; rfl
    have hl : (survK pend (keptB m ks) m).length = (tripK pend (keptB m ks) m).length := by unfold survK; simp
    have hlast := trip_last (ks := ks) hm ht
    rw [crashR, hs, ih, List.take_add_one, ht]
    obtain ⟨t1, a, x⟩ := t
    simp only [Option.toList_some, List.foldl_append, List.foldl_cons, List.foldl_nil]
    rw [hl]
    congr 1
    unfold tornL
    have e : (k + 1 = (tripK pend (keptB m ks) m).length ∧ 0 ≤ torn) ↔ ((t1 : Int) = lastK m ks ∧ 0 ≤ torn) := and_congr_left' hlast.symm
    by_cases hq : k + 1 = (tripK pend (keptB m ks) m).length ∧ 0 ≤ torn
    · rw [if_pos hq, if_pos (e.1 hq)]
    · rw [if_neg hq, if_neg (fun h => hq (e.2 h))]
theorem crashR_all (s : DS) (ks : List Int) (torn : Int) {m : Nat} (hm : m = s.pend.length) : crashR (survK s.pend (keptB m ks) m) torn (survK s.pend (keptB m ks) m).length s.sure = s.crashL ks torn := by
  have hl : (survK s.pend (keptB m ks) m).length = (tripK s.pend (keptB m ks) m).length := by unfold survK; simp
  rw [crashR_eq hm torn s.sure _ (by rw [hl]; exact Nat.le_refl _), hl, List.take_length, DS.crashL, ← hm, crashK_trip]
theorem surv_good {pend : List (Nat × ByteArray)} {kp : Nat → Bool} {n k : Nat} (h : ∀ p ∈ pend, p.1 + p.2.size ≤ n) : ∀ p ∈ survK pend kp k, p.1 + p.2.size ≤ n := by
  intro p hp
  obtain ⟨t, ht, rfl⟩ := List.mem_map.1 hp
  exact h _ (List.mem_of_getElem? (trip_mem ht).2.2)
theorem surv_le {pend : List (Nat × ByteArray)} {kp : Nat → Bool} : ∀ k, (survK pend kp k).length ≤ k
  | 0 => Nat.le_refl _
  | k + 1 => by
    have ih := surv_le (pend := pend) (kp := kp) k
    unfold survK at ih ⊢
    rw [List.length_map] at ih ⊢
    unfold tripK
    split
    · omega
    · split
      · simp; omega
      · omega
theorem crashR_length {l : List (Nat × ByteArray)} {torn : Int} {n : Nat} {L : List UInt8} (hL : L.length = n) (hp : ∀ p ∈ l, p.1 + p.2.size ≤ n) : ∀ k, (crashR l torn k L).length = n
  | 0 => hL
  | k + 1 => by
    have ih := crashR_length (torn := torn) hL hp k
    unfold crashR
    split
    · exact ih
    · rename_i a x he
      have h1 := hp _ (List.mem_of_getElem? he)
      have h3 := size_list x
      simp only at h1
      rw [over_length _ _ _ (by rw [ih]; split <;> simp <;> omega), ih]
end Go.Proofs.Ytgmghfgcpjpigaa
