/- LabelOnceOpen: joined, and its mathematics. -/
import Derived.Test.YthjolojpjajppaaGreatLbME
import Derived.Test.YthjolojpjajppaaGreatLbMG
set_option linter.unusedVariables false
set_option linter.unusedSimpArgs false
set_option linter.unnecessarySimpa false
namespace Go.Proofs.YthjolojpjajppaaGreat
open Go.RowKit
namespace Lb
open Sq
/-- is a number among the first k? -/
def hasK' (l : List Int) (x : Int) (k : Nat) : Bool := (l.take k).any fun y => y == x
theorem hasK_next {l : List Int} {x y : Int} {k : Nat} (h : l[k]? = some y) : hasK' l x (k + 1) = (hasK' l x k || (y == x)) := by
  unfold hasK'
  rw [List.take_add_one, h, List.any_append]
  simp
theorem hasK_all {l : List Int} {x : Int} {k : Nat} (h : l.length ≤ k) : hasK' l x k = decide (x ∈ l) := by
  unfold hasK'
  rw [List.take_of_length_le h]
  refine bool_iff ?_
  rw [List.any_eq_true, decide_eq_true_eq]
  constructor
  · rintro ⟨y, h1, h2⟩
    have := eq_of_beq h2
    rwa [← this]
  · intro h1
    exact ⟨x, h1, by simp⟩
/-- the numbers below n that are in one of two lists -/
def jd (a b : List Int) : Nat → List Int
  | 0 => []
  | n + 1 => if (decide ((n : Int) ∈ a) || decide ((n : Int) ∈ b)) = true then jd a b n ++ [(n : Int)] else jd a b n
theorem jd_lt (a b : List Int) : ∀ (n : Nat) (x : Int), x ∈ jd a b n → 0 ≤ x ∧ x < n
  | n + 1, x, h => by
    unfold jd at h
    split at h
    · rcases List.mem_append.1 h with h | h
      · have := jd_lt a b n x h; omega
      · rw [List.mem_singleton] at h; omega
    · have := jd_lt a b n x h; omega
theorem jd_asc (a b : List Int) : ∀ n, ascB (ltB cmpI) (jd a b n) = true
  | 0 => rfl
  | n + 1 => by
    unfold jd
    split
    · rw [ltB_I]
      exact asc_snoc _ _ (by rw [← ltB_I]; exact jd_asc a b n) (fun x hx => (jd_lt a b n x hx).2)
    · exact jd_asc a b n
theorem jd_mem {a b : List Int} : ∀ {n : Nat} {x : Nat}, x < n → ((x : Int) ∈ a ∨ (x : Int) ∈ b) → (x : Int) ∈ jd a b n
  | n + 1, x, hx, h => by
    unfold jd
    by_cases e : x = n
    · subst e
      rw [if_pos (by simpa using h)]
      exact List.mem_append.2 (.inr (List.mem_singleton.2 rfl))
    · have := jd_mem (a := a) (b := b) (n := n) (x := x) (by omega) h
      split
      · exact List.mem_append.2 (.inl this)
      · exact this
theorem jd_len (a b : List Int) : ∀ n, (jd a b n).length ≤ n
  | 0 => Nat.le_refl _
  | n + 1 => by
    have := jd_len a b n
    unfold jd
    split
    · simp; omega
    · omega
set_option maxRecDepth 100000 in
set_option maxHeartbeats 4000000 in
theorem joined_any (oa : Option Addr) (na ca : Nat) (a : List Int) (ob : Option Addr) (nb cb : Nat) (b : List Int) (w : World) (ha : Sv intE w oa na ca a) (hb : Sv intE w ob nb cb b) :
    Calls Tryz.prog 35 #[.slice oa na ca, .slice ob nb cb] w fun e w' => (∃ v, e = .returned v ∧ Sq.Own intE 3 w' w.heap.size v (jd a b 20)) ∧ Below w.heap.size w w' := by
  have SA := Lib.hid ha
  have SB := Lib.hid hb
  have hna : na ≤ 9223372036854775807 := by have := ha.2.1; have := ha.2.2.1; omega
  have hnb : nb ≤ 9223372036854775807 := by have := hb.2.1; have := hb.2.2.1; omega
  clear ha hb
  go_enter Tryz.func35, Tryz.ntmps35
  go_wp2_with fail
  go_loopw [5, 6] (fun v jv wr => ∃ k : Nat, jv = .int .i64 k ∧ k ≤ 20 ∧ Sq.Own intE 3 wr w.heap.size v (jd a b k) ∧ Below w.heap.size w wr) (fun _ jv _ => 20 - (intOf jv).toNat)
  case atStart => exact ⟨0, rfl, Nat.zero_le _, own_nil _ _ _, Below.refl _ _⟩
  case round =>
    obtain ⟨k, rfl, hk, hO, hB⟩ := hrel
    obtain ⟨v, rfl⟩ : ∃ v, v = u5 := ⟨_, rfl⟩
    rename World => wr
    have OW := Lib.hid hO
    have BB := Lib.hid hB
    have HL := Lib.hid (jd_len a b k)
    have SA2 := Lib.hid (SA.out.next hB)
    have SB2 := Lib.hid (SB.out.next hB)
    clear hO hB
    by_cases hlt : k < 20
    · have hdk : decide ((k : Int) < 20) = true := by simp; omega
      go_wp2_with fail
      go_loopw [7, 8] (fun bv jv wx => ∃ i : Nat, jv = .int .i64 i ∧ i ≤ na ∧ bv = .bool (hasK' a k i) ∧ wx = wr) (fun _ jv _ => na - (intOf jv).toNat)
      case atStart => exact ⟨0, rfl, Nat.zero_le _, rfl, rfl⟩
      case round =>
        obtain ⟨i, rfl, hi, rfl, rfl⟩ := hrel
        rename World => wr
        by_cases hli : i < na
        · obtain ⟨y, hy⟩ := get_some SA2.out.len hli
          obtain ⟨b1, off1, rfl, l1, c1⟩ := int_at SA2.out hy
          have HN := Lib.hid (hasK_next (x := (k : Int)) hy)
          clear hy
          obtain ⟨z, hz⟩ : ∃ z, hasK' a k i = z := ⟨_, rfl⟩
          obtain ⟨z2, hz2⟩ : ∃ z, (y == (k : Int)) = z := ⟨_, rfl⟩
          have HN2 := Lib.hid (show hasK' a k (i + 1) = (z || z2) by rw [HN.out, hz, hz2])
          rw [hz]
          clear hz HN
          cases z <;> cases z2
          all_goals
            go_wp2_with fail
            go_roundw
            case rel => exact ⟨i + 1, by go_num, by omega, by rw [HN2.out]; rfl, by trivial⟩
            case measure => first | (simp [intOf]; done) | (simp [intOf]; omega)
        · obtain rfl : i = na := by omega
          have HA1 := Lib.hid (show hasK' a k i = decide ((k : Int) ∈ a) from hasK_all (by rw [SA2.out.len]; exact Nat.le_refl _))
          obtain ⟨za, hza⟩ : ∃ z, decide ((k : Int) ∈ a) = z := ⟨_, rfl⟩
          rw [HA1.out, hza]
          have HZA := Lib.hid hza
          clear hza HA1
          go_wp2_with fail
          go_loopw [7, 9] (fun bv jv wx => ∃ j : Nat, jv = .int .i64 j ∧ j ≤ nb ∧ bv = .bool (za || hasK' b k j) ∧ wx = wr) (fun _ jv _ => nb - (intOf jv).toNat)
          case atStart => exact ⟨0, rfl, Nat.zero_le _, by show Value.bool za = .bool (za || false); rw [Bool.or_false], rfl⟩
          case round =>
            obtain ⟨j, rfl, hj, rfl, rfl⟩ := hrel
            rename World => wr
            by_cases hlj : j < nb
            · obtain ⟨y, hy⟩ := get_some SB2.out.len hlj
              obtain ⟨b1, off1, rfl, l1, c1⟩ := int_at SB2.out hy
              have HN := Lib.hid (hasK_next (x := (k : Int)) hy)
              clear hy
              obtain ⟨z, hz⟩ : ∃ z, (za || hasK' b k j) = z := ⟨_, rfl⟩
              obtain ⟨z2, hz2⟩ : ∃ z, (y == (k : Int)) = z := ⟨_, rfl⟩
              have HN2 := Lib.hid (show (za || hasK' b k (j + 1)) = (z || z2) by rw [HN.out, ← Bool.or_assoc, hz, hz2])
              rw [hz]
              clear hz HN
              cases z <;> cases z2
              all_goals
                go_wp2_with fail
                go_roundw
                case rel => exact ⟨j + 1, by go_num, by omega, by rw [HN2.out]; rfl, by trivial⟩
                case measure => first | (simp [intOf]; done) | (simp [intOf]; omega)
            · obtain rfl : j = nb := by omega
              have HB1 := Lib.hid (show hasK' b k j = decide ((k : Int) ∈ b) from hasK_all (by rw [SB2.out.len]; exact Nat.le_refl _))
              obtain ⟨z, hz⟩ : ∃ z, (za || decide ((k : Int) ∈ b)) = z := ⟨_, rfl⟩
              rw [HB1.out, hz]
              have hz3 : (decide ((k : Int) ∈ a) || decide ((k : Int) ∈ b)) = z := by rw [HZA.out]; exact hz
              clear hz HB1
              cases z with
              | true =>
                have HC := Lib.hid (show jd a b (k + 1) = jd a b k ++ [(k : Int)] from if_pos hz3)
                clear hz3
                go_wp2_with (at_builtin; refine wpList_append tyI rfl _ _ rfl w.heap.size v (jd a b k) rfl (OW.out.next ((Below.refl _ _).alloc (Nat.le_refl _) _)) (some ⟨wr.heap.size, 0, none⟩) 1 1 [(k : Int)] rfl rfl (fun h => by cases h) (sl_new intE wr _ [(k : Int)]) (by have := HL.out; omega) (by have := BB.out.size; simp; omega) ?_; intro v4 w4 ho hg; have HO4 := Lib.hid ho; have HB4 := Lib.hid (show Below w.heap.size w w4 from Below.grown (BB.out.alloc BB.out.size _) hg (by have := BB.out.size; simp; omega) (own_block OW.out)); clear ho hg)
                go_roundw
                case rel => exact ⟨k + 1, by go_num, by omega, by rw [HC.out]; exact HO4.out, HB4.out⟩
                case measure => first | (simp [intOf]; done) | (simp [intOf]; omega)
              | false =>
                have HC := Lib.hid (show jd a b (k + 1) = jd a b k from if_neg (by rw [hz3]; decide))
                clear hz3
                go_wp2_with fail
                go_roundw
                case rel => exact ⟨k + 1, by go_num, by omega, by rw [HC.out]; exact OW.out, BB.out⟩
                case measure => first | (simp [intOf]; done) | (simp [intOf]; omega)
    · obtain rfl : k = 20 := by omega
      go_wp2_with fail
      go_ret
      exact ⟨⟨_, rfl, OW.out⟩, BB.out⟩
/-- the best count, looking at the first k -/
def bst (b : Int) (f : Int) : List Cn → Int
  | [] => b
  | c :: l => bst (if c.fact = f then max b c.cnt else b) f l
theorem bst_is : ∀ {l : List Cn} {b f : Int}, ascB (ltB cmpC) l = true → (∀ x ∈ l, 0 ≤ x.cnt) → -1 ≤ b → bst b f l = max b (cntF l f)
  | [], b, f, _, _, h => by
    show b = max b (-1)
    omega
  | c :: l, b, f, ha, hc, h => by
    have h1 := ascC_head ha
    have h2 := hc c List.mem_cons_self
    have h3 : ∀ x ∈ l, 0 ≤ x.cnt := fun x hx => hc x (List.mem_cons_of_mem _ hx)
    show bst (if c.fact = f then max b c.cnt else b) f l = max b (if c.fact = f then c.cnt else cntF l f)
    by_cases e : c.fact = f
    · rw [if_pos e, if_pos e, bst_is (asc_tail ha) h3 (by omega), cntF_none (fun x hx => by have := h1 x hx; omega)]
      omega
    · rw [if_neg e, if_neg e, bst_is (asc_tail ha) h3 h]
/-- the greater counts of the facts below n -/
def gt2 (l m : List Cn) : Nat → List Cn
  | 0 => []
  | n + 1 => if 0 ≤ max (cntF l n) (cntF m n) then gt2 l m n ++ [⟨(n : Int), max (cntF l n) (cntF m n)⟩] else gt2 l m n
theorem gt2_lt (l m : List Cn) : ∀ (n : Nat) (x : Cn), x ∈ gt2 l m n → 0 ≤ x.fact ∧ x.fact < n ∧ 0 ≤ x.cnt ∧ x.cnt = max (cntF l x.fact) (cntF m x.fact)
  | n + 1, x, h => by
    unfold gt2 at h
    split at h
    · rcases List.mem_append.1 h with h | h
      · have := gt2_lt l m n x h; exact ⟨this.1, by omega, this.2.2⟩
      · rw [List.mem_singleton] at h
        subst h
        exact ⟨by show (0 : Int) ≤ n; omega, by show (n : Int) < _; omega, by assumption, rfl⟩
    · have := gt2_lt l m n x h; exact ⟨this.1, by omega, this.2.2⟩
theorem ascC_snoc : ∀ (l : List Cn) (y : Cn), ascB (ltB cmpC) l = true → (∀ x ∈ l, x.fact < y.fact) → ascB (ltB cmpC) (l ++ [y]) = true
  | [], y, _, _ => rfl
  | a :: l, y, h, hy => by
    refine asc_of (f := ltB cmpC) (l := l ++ [y]) (fun x hx => ?_) (ascC_snoc l y (asc_tail h) (fun x hx => hy x (List.mem_cons_of_mem _ hx)))
    have e : ∀ u v : Cn, ltB cmpC u v = decide (u.fact < v.fact) := fun u v => decide_eq_decide.2 (cmpI_lt u.fact v.fact)
    rw [e, decide_eq_true_eq]
    rcases List.mem_append.1 hx with hx | hx
    · exact ascC_head h x hx
    · rw [List.mem_singleton.1 hx]; exact hy a List.mem_cons_self
theorem gt2_asc (l m : List Cn) : ∀ n, ascB (ltB cmpC) (gt2 l m n) = true
  | 0 => rfl
  | n + 1 => by
    unfold gt2
    split
    · exact ascC_snoc _ _ (gt2_asc l m n) (fun x hx => (gt2_lt l m n x hx).2.1)
    · exact gt2_asc l m n
theorem gt2_mem {l m : List Cn} {f : Nat} (h : 0 ≤ max (cntF l f) (cntF m f)) : ∀ {n : Nat}, f < n → (⟨(f : Int), max (cntF l f) (cntF m f)⟩ : Cn) ∈ gt2 l m n
  | n + 1, hf => by
    unfold gt2
    by_cases e : f = n
    · subst e
      rw [if_pos h]
      exact List.mem_append.2 (.inr (List.mem_singleton.2 rfl))
    · have := gt2_mem (n := n) h (by omega)
      split
      · exact List.mem_append.2 (.inl this)
      · exact this
theorem gt2_len (l m : List Cn) : ∀ n, (gt2 l m n).length ≤ n
  | 0 => Nat.le_refl _
  | n + 1 => by
    have := gt2_len l m n
    unfold gt2
    split
    · simp; omega
    · omega
/-- no fact is confirmed less often -/
theorem gt2_ge {l m : List Cn} (hl : ∀ x ∈ l, 0 ≤ x.fact ∧ x.fact < 16 ∧ 0 ≤ x.cnt ∧ x.cnt ≤ 12) (f : Int) : cntF l f ≤ cntF (gt2 l m 16) f := by
  have h0 : -1 ≤ cntF (gt2 l m 16) f := cntF_ge (fun x hx => by have := gt2_lt l m 16 x hx; omega) f
  by_cases e : cntF l f = -1
  · omega
  · obtain ⟨x, hx, h1, h2⟩ := cntF_some e
    have h3 := hl x hx
    obtain ⟨k, hk⟩ := Int.eq_ofNat_of_zero_le (show 0 ≤ f by omega)
    subst hk
    have h4 := gt2_mem (l := l) (m := m) (f := k) (n := 16) (by omega) (by omega)
    have h5 := cntF_mem (gt2_asc l m 16) _ h4
    dsimp only at h5
    rw [h5]
    omega
theorem later_vm {m o : Mo} (hm : Vm m) (ho : Vm o) (h1 : m.now ≤ 390) (h2 : o.now ≤ 390) {eo : Option Addr} {en ec : Nat} {co : Option Addr} {cn cc : Nat} {ko : Option Addr} {kn kc : Nat} :
    Vm ⟨m.now + o.now, m.drift, eo, en, ec, jd m.ev o.ev 20, co, cn, cc, gt2 m.cs o.cs 16, ko, kn, kc, jd m.ks o.ks 20⟩ := by
  have h3 := hm.n0
  have h4 := ho.n0
  refine ⟨by show 0 ≤ m.now + o.now; omega, by show m.now + o.now ≤ 50000000; omega, hm.d0, hm.d1, jd_asc _ _ 20, fun x hx => ?_, gt2_asc _ _ 16, fun x hx => ?_, jd_asc _ _ 20, fun x hx => ?_⟩
  · have := jd_lt _ _ 20 x hx; omega
  · have h5 := gt2_lt _ _ 16 x hx
    refine ⟨h5.1, by omega, h5.2.2.1, ?_⟩
    have up : ∀ {l : List Cn}, (∀ x ∈ l, 0 ≤ x.fact ∧ x.fact < 16 ∧ 0 ≤ x.cnt ∧ x.cnt ≤ 12) → cntF l x.fact ≤ 12 := fun {l} hl => by
      by_cases e : cntF l x.fact = -1
      · omega
      · obtain ⟨y, hy, _, e2⟩ := cntF_some e
        have := hl y hy
        omega
    have h6 := up hm.cf
    have h7 := up ho.cf
    omega
  · have := jd_lt _ _ 20 x hx; omega
theorem later_open {a : La} {t c : Nat} {m o : Mo} (hm : Vm m) (ho : Vm o) {eo : Option Addr} {en ec : Nat} {co : Option Addr} {cn cc : Nat} {ko : Option Addr} {kn kc : Nat} (h : Opn a t c m) :
    Opn a t c ⟨m.now + o.now, m.drift, eo, en, ec, jd m.ev o.ev 20, co, cn, cc, gt2 m.cs o.cs 16, ko, kn, kc, jd m.ks o.ks 20⟩ := by
  have h4 := ho.n0
  refine opn_more h (by show m.now - m.drift ≤ m.now + o.now - m.drift; omega) (fun x hx => ?_) (gt2_ge hm.cf) (fun x hx => ?_)
  · have h5 := hm.ef x hx
    obtain ⟨k, rfl⟩ := Int.eq_ofNat_of_zero_le h5.1
    exact jd_mem (by omega) (.inl hx)
  · have h5 := hm.kf x hx
    obtain ⟨k, rfl⟩ := Int.eq_ofNat_of_zero_le h5.1
    exact jd_mem (by omega) (.inl hx)
end Lb
end Go.Proofs.YthjolojpjajppaaGreat
