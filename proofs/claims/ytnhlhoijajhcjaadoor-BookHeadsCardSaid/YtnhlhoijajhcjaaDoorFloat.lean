/- Regions whose order Go leaves open and that make one new variable beside calls: the variable's block is another one in each order, and nothing else differs. -/
import Derived.Test.YtnhlhoijajhcjaaDoorRegion
set_option linter.unusedVariables false
set_option linter.unusedSimpArgs false
set_option linter.unnecessarySimpa false
namespace Go.Proofs.YtnhlhoijajhcjaaDoor
open Go.RowKit

section
variable {P : Program}

/-- A caller that goes nowhere: the machine ends behind it. -/
def deadEnd (P : Program) : Frame := { fn := P.funcs.size, tmps := #[], todo := [], defers := [], mode := .returning, kind := .report }

theorem step_deadEnd (w : World) : ∃ o x, step P (lone (deadEnd P) [] w) = .ended o x := by
  have h : ∃ o x, (stepG P true { frame := deadEnd P, callers := [], status := .running, dying := none } w).bare = .ended o x := by
    simp [stepG, unwind, doReturn, deadEnd]
  obtain ⟨o, x, h⟩ := h
  exact ⟨o, x, step_lone_ended h⟩

theorem runN_add (n k : Nat) (m : Machine) : runN P (n + k) m = match runN P n m with | .next m' => runN P k m' | e => e := by
  induction n generalizing m with
  | zero => simp [runN]
  | succ n ih =>
    rw [Nat.add_right_comm]
    simp only [runN]
    cases step P m <;> simp [ih]

/-- One call, in one world, hands back one value. -/
theorem calls_det {f : FuncId} {args : Array Value} {w : World} {v v' : Value} {A B : World → Prop} (h : Calls P f args w fun e w' => e = .returned v ∧ A w') (h' : Calls P f args w fun e w' => e = .returned v' ∧ B w') : v = v' := by
  obtain ⟨e, w1, fr1, ⟨rfl, _⟩, ⟨n1, c1⟩, hf1, l1⟩ := h [deadEnd P]
  obtain ⟨e, w2, fr2, ⟨rfl, _⟩, ⟨n2, c2⟩, hf2, l2⟩ := h' [deadEnd P]
  have s1 := step_leave_returned (c := deadEnd P) (cs := []) l1
  have s2 := step_leave_returned (c := deadEnd P) (cs := []) l2
  have d1 : (deadEnd P).finish v = deadEnd P := rfl
  have d2 : (deadEnd P).finish v' = deadEnd P := rfl
  rw [d1] at s1
  rw [d2] at s2
  obtain ⟨o1, x1, t1⟩ := step_deadEnd (P := P) w1
  obtain ⟨o2, x2, t2⟩ := step_deadEnd (P := P) w2
  have key : ∀ (na nb : Nat) (fa fb : Frame) (wa wb : World) (o : Outcome) (x : World), runN P na (lone (Frame.enter P f args .normal) [deadEnd P] w) = .next (lone fa [deadEnd P] wa) →
      runN P nb (lone (Frame.enter P f args .normal) [deadEnd P] w) = .next (lone fb [deadEnd P] wb) → step P (lone fa [deadEnd P] wa) = .next (lone (deadEnd P) [] wa) → step P (lone (deadEnd P) [] wa) = .ended o x → nb ≤ na + 1 := by
    intro na nb fa fb wa wb o x ha hb hs ht
    rcases Nat.lt_or_ge (na + 1) nb with hlt | hge
    · obtain ⟨k, rfl⟩ := Nat.exists_eq_add_of_le (show na + 2 ≤ nb by omega)
      rw [show na + 2 + k = na + (2 + k) by omega, runN_add, ha, show 2 + k = k + 1 + 1 by omega] at hb
      simp [runN, hs, ht] at hb
    · exact hge
  have same : ∀ (na : Nat) (fa fb : Frame) (wa wb : World), runN P na (lone (Frame.enter P f args .normal) [deadEnd P] w) = .next (lone fa [deadEnd P] wa) →
      runN P (na + 1) (lone (Frame.enter P f args .normal) [deadEnd P] w) = .next (lone fb [deadEnd P] wb) → step P (lone fa [deadEnd P] wa) = .next (lone (deadEnd P) [] wa) → False := by
    intro na fa fb wa wb ha hb hs
    rw [runN_add, ha] at hb
    simp only [runN, hs] at hb
    simp [lone] at hb
  have e12 : n1 = n2 := by
    have k1 := key n1 n2 _ _ _ _ _ _ c1 c2 s1 t1
    have k2 := key n2 n1 _ _ _ _ _ _ c2 c1 s2 t2
    rcases Nat.lt_trichotomy n1 n2 with h | h | h
    · obtain rfl : n2 = n1 + 1 := by omega
      exact (same n1 _ _ _ _ c1 c2 s1).elim
    · exact h
    · obtain rfl : n1 = n2 + 1 := by omega
      exact (same n2 _ _ _ _ c2 c1 s2).elim
  subst e12
  rw [c1] at c2
  simp only [Stepped.next.injEq, lone, Machine.mk.injEq, Array.mk.injEq, List.cons.injEq, Goroutine.mk.injEq, and_true] at c2
  obtain ⟨rfl, rfl, _⟩ := c2
  obtain ⟨_, _, _, fn1, g1, r1⟩ := l1
  obtain ⟨_, _, _, fn2, g2, r2⟩ := l2
  rw [g1] at g2
  obtain rfl := Option.some.inj g2
  rw [r1] at r2
  injection r2

variable {ops : Array Oper} {md : Region.Mode}

theorem quietAt_det {C D : World → Prop} {o : Oper} {a : Act} {w : World} {v v' : Value} (h : o.quietAt P a C w v) (h' : o.quietAt P a D w v') : v = v' := by
  unfold Oper.quietAt at h h'
  generalize (execOp a.eval o).run P w = r at *
  cases r with
  | ok n w' =>
    cases n <;> simp only [Oper.quietUpon] at h h'
    case value u => exact h.2.symm.trans h'.2
    case skip => exact h.2.trans h'.2.symm
    case enter f args => exact calls_det (h.1 ▸ h.2) (h'.1 ▸ h'.2)
  | halt x w' => simp only [Oper.quietUpon] at h

/-- The class of the worlds that have new blocks alone over W. -/
def KinOf (W : World) : World → Prop := fun w' => ∃ k : Kin W, w' = k.it
theorem KinOf.self (W : World) : KinOf W W := ⟨⟨W, Below.refl _ _⟩, rfl⟩
theorem KinOf.of {W w' : World} (h : Below W.heap.size W w') : KinOf W w' := ⟨⟨w', h⟩, rfl⟩
theorem KinOf.below {W w' : World} (h : KinOf W w') : Below W.heap.size W w' := by obtain ⟨k, rfl⟩ := h; exact k.below

theorem yields_det {W W' : World} (hW : Below W.heap.size W W') {o : Oper} {a : Act} {v v' : Value} (h : YieldsIn P ops (KinOf W) o v a) (h' : YieldsIn P ops (KinOf W') o v' a) : v = v' := by
  rcases h with ⟨hw, hv⟩ | ⟨hw, rfl⟩ <;> rcases h' with ⟨hw', hv'⟩ | ⟨hw', rfl⟩
  · exact quietAt_det (hv W' (KinOf.of hW)) (hv' W' (KinOf.self W'))
  · rw [hw] at hw'; cases hw'
  · rw [hw] at hw'; cases hw'
  · rfl

/-! ### A stretch of operations in the order of the text -/
def setFrom : Nat → Nat → Array Bool → Array Bool
  | _, 0, L => L
  | k, c + 1, L => setFrom (k + 1) c (L.setIfInBounds k true)
def segB (md : Region.Mode) (ops : Array Oper) : Nat → Nat → Array Bool → Bool
  | _, 0, _ => true
  | k, c + 1, L => (Region.ready md ops L).contains k && Region.free md ops L k && segB md ops (k + 1) c (L.setIfInBounds k true)

theorem headAny_seg {C : World → Prop} {n : Nat} {L : Array Bool → Act → Prop} (hsel : Region.noSelect ops = true) (hs : Region.sinkB md ops n = true) (hc : Region.chainB md ops n = true) (hn : n < ops.size)
    (hdone : ∀ listed a, L listed a → ∀ j ∈ Region.ready md ops listed, n ≤ j) (f : Nat) :
    ∀ (l : List Oper) (k : Nat) (listed : Array Bool) (a : Act), (∀ j, j < l.length → l[j]? = ops[k + j]?) → k + l.length ≤ n → HeadInv md ops n listed → segB md ops k l.length listed = true →
    wpQuiet P ops C (fun a' => headAny P md ops C n L f (setFrom k l.length listed) a') l a → headAny P md ops C n L (l.length + f) listed a
  | [], k, listed, a, _, _, _, _, h => by simpa [setFrom, wpQuiet] using h
  | o :: l, k, listed, a, hl, hk, inv, hB, h => by
    have h0 : ops[k]? = some o := by simpa using (hl 0 (by simp)).symm
    simp only [List.length_cons, segB, Bool.and_eq_true] at hB
    obtain ⟨⟨hr, hf⟩, hB'⟩ := hB
    have hkn : k < n := by simp only [List.length_cons] at hk; omega
    have hr' : k ∈ Region.ready md ops listed := by simpa using hr
    have hst : qOp P ops C k (wpQuiet P ops C (fun a' => headAny P md ops C n L f (setFrom k (l.length + 1) listed) a') l) a := by unfold qOp; simp only [h0]; exact h
    obtain ⟨v, hy, hK⟩ := yieldsIn_of_qOp h0 hst
    rw [List.length_cons, Nat.add_right_comm]
    exact headAny_first h0 (Region.noSelect_spec hsel) hs hc hn hkn hdone (l.length + f) listed a inv (Region.free_spec h0 hf) hr' hy
      (headAny_seg hsel hs hc hn hdone f l (k + 1) _ _ (fun j hj => by have := hl (j + 1) (by simp; omega); simpa [Nat.add_assoc, Nat.add_comm 1 j] using this) (by simp only [List.length_cons] at hk; omega) (inv.set hr' hkn) hB' hK)

theorem wpQuiet_append {C : World → Prop} {Q : Act → Prop} : ∀ (l r : List Oper) (a : Act), wpQuiet P ops C Q (l ++ r) a → wpQuiet P ops C (fun a' => wpQuiet P ops C Q r a') l a
  | [], _, _, h => h
  | o :: l, r, a, h => by
    simp only [List.cons_append, wpQuiet] at h ⊢
    split
    · rename_i hw
      rw [if_pos hw] at h
      exact Oper.quiet_mono (fun a' h' => wpQuiet_append l r a' h') h
    · rename_i hw
      rw [if_neg hw] at h
      exact wpQuiet_append l r _ h

theorem wpQuiet_mono {C : World → Prop} {Q Q' : Act → Prop} (hq : ∀ a, Q a → Q' a) : ∀ (l : List Oper) (a : Act), wpQuiet P ops C Q l a → wpQuiet P ops C Q' l a
  | [], _, h => hq _ h
  | o :: l, a, h => by
    simp only [wpQuiet] at h ⊢
    split
    · rename_i hw
      rw [if_pos hw] at h
      exact Oper.quiet_mono (fun a' h' => wpQuiet_mono hq l a' h') h
    · rename_i hw
      rw [if_neg hw] at h
      exact wpQuiet_mono hq l _ h

/-! ### The new variable -/
/-- What the operations that are apart from it do behind it. -/
theorem headAny_put {C : World → Prop} {n m : Nat} {om : Oper} {p : Value} {L : Array Bool → Act → Prop} (hsel : ∀ (j : Nat) (o : Oper) cs b, ops[j]? = some o → o.op ≠ .select cs b)
    (hap : ∀ j oj, ops[j]? = some oj → j < n → j ≠ m → om.apart ops oj = true) :
    ∀ (f : Nat) (listed : Array Bool) (a : Act), listed.getD m true = true → headAny P md ops C n L f listed a →
      headAny P md ops C n (fun listed' a' => ∃ a0, a' = a0.put om.dst p ∧ L listed' a0) f listed (a.put om.dst p)
  | 0, _, a, _, h => ⟨a, rfl, h⟩
  | f + 1, listed, a, hm, h => by
    refine ⟨h.1, fun i hi => ?_⟩
    obtain ⟨hin, hq⟩ := h.2 i hi
    refine ⟨hin, ?_⟩
    obtain ⟨hun, oj, hoj, _⟩ := mem_ready.1 hi
    have him : i ≠ m := fun e => by rw [e, hm] at hun; cases hun
    obtain ⟨h1, h2, _⟩ := Oper.apart_spec (hap i oj hoj hin him)
    have hm' : (listed.setIfInBounds i true).getD m true = true := by rw [getD_set_ne true him]; exact hm
    unfold qOp at hq ⊢
    simp only [hoj] at hq ⊢
    rw [wanted_put oj a om.dst p h1]
    split
    · rename_i hw
      rw [if_pos hw] at hq
      obtain ⟨u, hu, hk⟩ := hq
      refine ⟨u, fun w hw' => ?_, ?_⟩
      · have := hu w hw'
        unfold Oper.quietAt at *
        rwa [execOp_put oj (fun cs b => hsel i oj cs b hoj) a om.dst p h1]
      · rw [Act.put_comm a p u h2]
        exact headAny_put hsel hap f _ _ hm' hk
    · rename_i hw
      rw [if_neg hw] at hq
      rw [Act.put_comm a p undef h2]
      exact headAny_put hsel hap f _ _ hm' hq

theorem floatAny {n m g : Nat} {om : Oper} {O : Obj} {w : World} {L : Array Bool → Act → Prop} {Q' : Exit → Act → World → Prop} (hom : ops[m]? = some om) (hguard : om.guard = none)
    (hal : ∀ (ρ : Operand → Value) (w1 : World), (execOp ρ om).run P w1 = .ok (.value (.pointer (some ⟨w1.heap.size, 0, none⟩))) (w1.alloc O))
    (hsel : ∀ (j : Nat) (o : Oper) cs b, ops[j]? = some o → o.op ≠ .select cs b)
    (hap : ∀ j oj, ops[j]? = some oj → j < n → j ≠ m → om.apart ops oj = true) (hs : Region.sinkB md ops n = true) (hc : Region.chainB md ops n = true) (hn : n < ops.size) (hmn : m < n)
    (hdone : ∀ listed a, L listed a → ∀ j ∈ Region.ready md ops listed, n ≤ j)
    (hL : ∀ listed a0 w' b, L listed a0 → Below w.heap.size w w' → w.heap.size ≤ b → w'.heap[b]? = some O → wpAny P md ops Q' g listed (a0.put om.dst (.pointer (some ⟨b, 0, none⟩))) w') :
    ∀ (f : Nat) (listed : Array Bool) (a : Act) (w1 : World), Below w.heap.size w w1 → HeadInv md ops n listed → m ∈ Region.ready md ops listed →
      (∀ W, Below w1.heap.size w1 W → headAny P md ops (KinOf W) n L f (listed.setIfInBounds m true) a) → wpAny P md ops Q' (f + 1 + g) listed a w1 := by
  intro f
  induction f with
  | zero =>
    intro listed a w1 hb inv hr H
    rw [show 0 + 1 + g = g + 1 by omega]
    refine ⟨fun h => (by rw [h] at hr; cases hr), fun i hi => ?_⟩
    by_cases him : i = m
    · subst him
      unfold wpOp
      simp only [hom]
      have hw : Region.wanted om (yielded ops a.tmps) = true := by simp [Region.wanted, hguard]
      rw [if_pos hw]
      refine .inl ?_
      unfold Oper.wp
      rw [hal]
      exact hL _ a _ _ (H w1 (Below.refl _ _)) (hb.alloc hb.size _) hb.size (by show (w1.heap.push O)[w1.heap.size]? = some O; simp)
    · have hun := (mem_ready.1 hr).1
      have h1 := hdone _ _ (H w1 (Below.refl _ _)) i (ready_mono hi him)
      exact absurd hi (tail_waits hs hc hn inv _ m rfl hmn hun i h1)
  | succ f ih =>
    intro listed a w1 hb inv hr H
    have hun := (mem_ready.1 hr).1
    have hm_in : m < listed.size := by rw [inv.size]; omega
    rw [show f + 1 + 1 + g = (f + 1 + g) + 1 by omega]
    refine ⟨fun h => (by rw [h] at hr; cases hr), fun i hi => ?_⟩
    by_cases him : i = m
    · subst him
      unfold wpOp
      simp only [hom]
      have hw : Region.wanted om (yielded ops a.tmps) = true := by simp [Region.wanted, hguard]
      rw [if_pos hw]
      refine .inl ?_
      unfold Oper.wp
      rw [hal]
      have hb1 : Below w1.heap.size w1 (w1.alloc O) := (Below.refl _ _).alloc (Nat.le_refl _) _
      have h2 := headAny_put (p := .pointer (some ⟨w1.heap.size, 0, none⟩)) hsel hap (f + 1) _ a (by simp [hm_in]) (H (w1.alloc O) hb1)
      refine wpAny_of_headAny (fun listed' a' w' hw' hL' => ?_) (f + 1) _ _ _ (KinOf.self _) h2
      obtain ⟨a0, rfl, hl⟩ := hL'
      have hk := hw'.below
      exact hL _ a0 _ _ hl (((hb.alloc hb.size _)).trans (hk.mono (by have := hb.size; simp; omega))) hb.size (by
        rw [hk.block w1.heap.size (by simp)]; show (w1.heap.push O)[w1.heap.size]? = some O; simp)
    · obtain ⟨hin, hq⟩ := (H w1 (Below.refl _ _)).2 i (ready_mono hi him)
      obtain ⟨_, oj, hoj, _⟩ := mem_ready.1 hi
      obtain ⟨v, hy, _⟩ := yieldsIn_of_qOp hoj hq
      refine wpOp_of_qOp (C := KinOf w1) (KinOf.self w1) ?_ (hy.qOp hoj (K := fun a' => a' = a.put oj.dst v) rfl)
      rintro a' w2 hw2 rfl
      have hb2 := hw2.below
      refine ih _ _ w2 (hb.trans (hb2.mono hb.size)) (inv.set hi hin) (ready_mono hr (Ne.symm him)) (fun W hW => ?_)
      have hW1 : Below w1.heap.size w1 W := hb2.trans (hW.mono hb2.size)
      obtain ⟨_, hqW⟩ := (H W hW1).2 i (ready_mono hi him)
      obtain ⟨v', hy', hK⟩ := yieldsIn_of_qOp hoj hqW
      obtain rfl := yields_det hW1 hy hy'
      rw [Array.setIfInBounds_comm _ _ him]
      exact hK

/-- Which regions it serves: 'm' makes the variable, 'n' is the first of the stores. -/
def floatB (ops : Array Oper) (m n : Nat) : Bool :=
  Region.noSelect ops && decide (n < ops.size) && decide (m < n) && Region.sinkB .any ops n && Region.chainB .any ops n &&
  (Region.ready .any ops (Array.replicate ops.size false)).contains m &&
  ((List.range n).all fun j => j == m || match ops[m]?, ops[j]? with | some om, some oj => om.apart ops oj | _, _ => false) &&
  segB .any ops 0 m ((Array.replicate ops.size false).setIfInBounds m true) &&
  segB .any ops (m + 1) (n - m - 1) (setFrom 0 m ((Array.replicate ops.size false).setIfInBounds m true)) &&
  Region.seqB .any ops (ops.size - n) n (setFrom (m + 1) (n - m - 1) (setFrom 0 m ((Array.replicate ops.size false).setIfInBounds m true)))

theorem headInv_setFrom {n : Nat} : ∀ (c k : Nat) (listed : Array Bool), k + c ≤ n → HeadInv md ops n listed → segB md ops k c listed = true → HeadInv md ops n (setFrom k c listed)
  | 0, _, _, _, inv, _ => inv
  | c + 1, k, listed, hk, inv, hB => by
    simp only [segB, Bool.and_eq_true] at hB
    exact headInv_setFrom c (k + 1) _ (by omega) (inv.set (by simpa using hB.1.1) (by omega)) hB.2

theorem any_float {Q : Exit → Act → World → Prop} {a : Act} {w : World} {l : List Oper} (m n : Nat) (om : Oper) (O : Obj) (hB : floatB l.toArray m n = true) (hom : l[m]? = some om) (hguard : om.guard = none)
    (hal : ∀ (ρ : Operand → Value) (w1 : World), (execOp ρ om).run P w1 = .ok (.value (.pointer (some ⟨w1.heap.size, 0, none⟩))) (w1.alloc O)) (B K : Nat) (hK : B + K ≤ w.heap.size)
    (h : ∀ W, (∀ (k : Kin W) (b o : Nat), b < B + K → k.it.cell? ⟨b, o, none⟩ = w.cell? ⟨b, o, none⟩) → Below w.heap.size w W →
      wpQuiet P l.toArray (fun w' => ∃ k : Kin W, w' = k.it) (fun a' => ∀ w' b, Below w.heap.size w w' → w.heap.size ≤ b → w'.heap[b]? = some O →
        wpList P l.toArray Q (l.drop n) (a'.put om.dst (.pointer (some ⟨b, 0, none⟩))) w') (l.take m ++ (l.take n).drop (m + 1)) a) : wpAny P .any l.toArray Q l.toArray.size (Array.replicate l.toArray.size false) a { w with drawn := w.drawn + 1 } := by
  simp only [floatB, Bool.and_eq_true, decide_eq_true_eq] at hB
  obtain ⟨⟨⟨⟨⟨⟨⟨⟨⟨hsel, hn⟩, hmn⟩, hs⟩, hc⟩, hr⟩, hap⟩, hsg1⟩, hsg2⟩, hseq⟩ := hB
  have hr' : m ∈ Region.ready .any l.toArray (Array.replicate l.toArray.size false) := by simpa using hr
  have hn' : n < l.length := by simpa using hn
  have inv0 : HeadInv .any l.toArray n (Array.replicate l.toArray.size false) :=
    ⟨by simp, fun j oj _ hl => (by rw [getD_replicate_false] at hl; cases hl), fun t _ ht => getD_in (by simpa using ht) (getD_replicate_false _ _)⟩
  have inv1 := inv0.set hr' hmn
  have inv2 := headInv_setFrom m 0 _ (by omega) inv1 hsg1
  have hap' : ∀ j oj, l.toArray[j]? = some oj → j < n → j ≠ m → om.apart l.toArray oj = true := fun j oj hj hjn hjm => by
    have h1 := List.all_eq_true.1 hap j (List.mem_range.2 hjn)
    simp only [Bool.or_eq_true, beq_iff_eq, hjm, false_or] at h1
    rw [show l.toArray[m]? = some om by simpa using hom, hj] at h1
    exact h1
  have hdl : (l.drop n).length = l.toArray.size - n := by simp
  have l1 : (l.take m).length = m := by simp; omega
  have l2 : ((l.take n).drop (m + 1)).length = n - m - 1 := by simp; omega
  have main := floatAny (P := P) (md := .any) (Q' := Q) (g := l.toArray.size - n) (n := n) (m := m) (O := O) (w := w)
    (L := fun listed' a' => Region.seqB .any l.toArray (l.toArray.size - n) n listed' = true ∧ ∀ w' b, Below w.heap.size w w' → w.heap.size ≤ b → w'.heap[b]? = some O → wpList P l.toArray Q (l.drop n) (a'.put om.dst (.pointer (some ⟨b, 0, none⟩))) w')
    (show l.toArray[m]? = some om by simpa using hom) hguard hal (Region.noSelect_spec hsel) hap' hs hc hn hmn (fun listed' a' hL => seqB_ready hL.1)
    (fun listed a0 w' b hL hb hbb ho => by
      have := wpAny_of_seq (md := .any) (Q' := Q) (l.drop n) n listed (a0.put om.dst (.pointer (some ⟨b, 0, none⟩))) w' (fun j => by simp [List.getElem?_drop]) (by rw [hdl]; exact hL.1) (hL.2 w' b hb hbb ho)
      rwa [hdl] at this)
    (n - 1) (Array.replicate l.toArray.size false) a { w with drawn := w.drawn + 1 } (Below.refl _ w).drew inv0 hr' (fun W hW => by
      have hW' : Below w.heap.size w W := (Below.refl w.heap.size w).drew.trans hW
      have hq := wpQuiet_append _ _ _ (h W (fun k b o hbo => (k.below.cell (p := ⟨b, o, none⟩) (Nat.lt_of_lt_of_le hbo (Nat.le_trans hK hW'.size))).trans (hW'.cell (p := ⟨b, o, none⟩) (Nat.lt_of_lt_of_le hbo hK))) hW')
      have seg := headAny_seg (C := KinOf W) hsel hs hc hn (fun listed' a' hL => seqB_ready hL.1) (n - m - 1 + 0) (l.take m) 0 ((Array.replicate l.toArray.size false).setIfInBounds m true) a
        (L := fun listed' a' => Region.seqB .any l.toArray (l.toArray.size - n) n listed' = true ∧ ∀ w' b, Below w.heap.size w w' → w.heap.size ≤ b → w'.heap[b]? = some O → wpList P l.toArray Q (l.drop n) (a'.put om.dst (.pointer (some ⟨b, 0, none⟩))) w')
        (fun j hj => by rw [l1] at hj; simp [hj]) (by rw [l1]; omega) inv1 (by rw [l1]; exact hsg1)
        (wpQuiet_mono (fun a' h2 => by
          rw [l1]
          have seg2 := headAny_seg (C := KinOf W) hsel hs hc hn (fun listed' a' hL => seqB_ready hL.1) 0 ((l.take n).drop (m + 1)) (m + 1) (setFrom 0 m ((Array.replicate l.toArray.size false).setIfInBounds m true)) a'
            (L := fun listed' a' => Region.seqB .any l.toArray (l.toArray.size - n) n listed' = true ∧ ∀ w' b, Below w.heap.size w w' → w.heap.size ≤ b → w'.heap[b]? = some O → wpList P l.toArray Q (l.drop n) (a'.put om.dst (.pointer (some ⟨b, 0, none⟩))) w')
            (fun j hj => by
              rw [l2] at hj
              simp only [List.getElem?_drop, List.getElem?_take, List.getElem?_toArray]
              rw [if_pos (by omega)]) (by rw [l2]; omega) inv2 (by rw [l2]; exact hsg2)
            (wpQuiet_mono (fun a'' h3 => ⟨by rw [l2]; exact hseq, h3⟩) _ _ h2)
          rw [l2] at seg2
          exact seg2) _ _ hq)
      rw [l1, show m + (n - m - 1 + 0) = n - 1 by omega] at seg
      exact seg)
  rw [show n - 1 + 1 + (l.toArray.size - n) = l.toArray.size by omega] at main
  exact main
theorem wp_region_float {id : Nat} {Q : Exit → Act → World → Prop} {a : Act} {w : World} {l : List Oper} (m n : Nat) (om : Oper) (O : Obj) (hmo : P.follows .mixedOrders = true) (hB : floatB l.toArray m n = true) (hom : l[m]? = some om) (hguard : om.guard = none)
    (hal : ∀ (ρ : Operand → Value) (w1 : World), (execOp ρ om).run P w1 = .ok (.value (.pointer (some ⟨w1.heap.size, 0, none⟩))) (w1.alloc O)) (B K : Nat) (hK : B + K ≤ w.heap.size)
    (h : ∀ W, (∀ (k : Kin W) (b o : Nat), b < B + K → k.it.cell? ⟨b, o, none⟩ = w.cell? ⟨b, o, none⟩) → Below w.heap.size w W →
      wpQuiet P l.toArray (fun w' => ∃ k : Kin W, w' = k.it) (fun a' => ∀ w' b, Below w.heap.size w w' → w.heap.size ≤ b → w'.heap[b]? = some O →
        wpList P l.toArray Q (l.drop n) (a'.put om.dst (.pointer (some ⟨b, 0, none⟩))) w') (l.take m ++ (l.take n).drop (m + 1)) a) : (Code.region id l.toArray true).wp P Q a w :=
  wp_region_any hmo (any_float m n om O hB hom hguard hal B K hK h)
end

theorem block_cells {w : World} {b : Nat} {c : Array Value} {t : TypeId} (h : w.heap[b]? = some (.cells c t)) : (∀ o, w.cell? ⟨b, o, none⟩ = c[o]?) ∧ (∀ o, w.frozen? ⟨b, o, none⟩ = false) :=
  ⟨fun o => by simp [World.cell?, h], fun o => by simp [World.frozen?, h]⟩
end Go.Proofs.YtnhlhoijajhcjaaDoor
