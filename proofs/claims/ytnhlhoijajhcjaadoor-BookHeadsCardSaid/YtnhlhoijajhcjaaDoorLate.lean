/- Regions in which an operation that only hands on (an extract, a move) need not come ahead of a store: it may be put ahead of it, in every order. -/
import Derived.Test.YtnhlhoijajhcjaaDoorFloat
set_option linter.unusedVariables false
set_option linter.unusedSimpArgs false
set_option linter.unnecessarySimpa false
namespace Go.Proofs.YtnhlhoijajhcjaaDoor
open Go.RowKit

section
variable {P : Program} {md : Region.Mode} {Q : Exit → Act → World → Prop}

/-- The operations j of a list are also to wait for q. -/
def lateFrom (q : Nat) (js : List Nat) : Nat → List Oper → List Oper
  | _, [] => []
  | i, o :: l => (if js.contains i then { o with after := o.after.push ⟨q, .data⟩ } else o) :: lateFrom q js (i + 1) l
abbrev late (q : Nat) (js : List Nat) (l : List Oper) : List Oper := lateFrom q js 0 l

theorem lateFrom_get (q : Nat) (js : List Nat) : ∀ (l : List Oper) (k i : Nat), (lateFrom q js k l)[i]? = (l[i]?).map fun o => if js.contains (k + i) then { o with after := o.after.push ⟨q, .data⟩ } else o := by
  intro l
  induction l with
  | nil => intro k i; simp [lateFrom]
  | cons o l ih =>
    intro k i
    cases i with
    | zero => simp [lateFrom]
    | succ i => simp only [lateFrom, List.getElem?_cons_succ, ih]; congr 2; funext o; rw [show k + 1 + i = k + (i + 1) by omega]
theorem late_get (q : Nat) (js : List Nat) (l : List Oper) (i : Nat) : (late q js l)[i]? = (l[i]?).map fun o => if js.contains i then { o with after := o.after.push ⟨q, .data⟩ } else o := by
  have := lateFrom_get q js l 0 i
  simpa using this
theorem lateFrom_len (q : Nat) (js : List Nat) : ∀ (l : List Oper) (k : Nat), (lateFrom q js k l).length = l.length
  | [], _ => rfl
  | _ :: l, k => by simp [lateFrom, lateFrom_len q js l]

/-- Two lists of operations that differ in what is waited for alone. -/
inductive AlikeBut : List Oper → List Oper → Prop
  | nil : AlikeBut [] []
  | cons (o : Oper) (es : Array Edge) {l l' : List Oper} (h : AlikeBut l l') : AlikeBut (o :: l) ({ o with after := es } :: l')
theorem alikeBut_late (q : Nat) (js : List Nat) : ∀ (l : List Oper) (k : Nat), AlikeBut l (lateFrom q js k l) := by
  intro l
  induction l with
  | nil => intro k; exact .nil
  | cons o l ih =>
    intro k
    by_cases h : js.contains k = true
    · simp only [lateFrom, h, if_true]; exact .cons o _ (ih _)
    · simp only [lateFrom, h]; exact .cons o o.after (ih _)
theorem alikeBut_get {l l' : List Oper} (h : AlikeBut l l') : ∀ i : Nat, (l'[i]?).bind (fun o => o.dst) = (l[i]?).bind (fun o => o.dst) := by
  induction h with
  | nil => intro i; rfl
  | cons o es _ ih =>
    intro i
    cases i with
    | zero => rfl
    | succ i => simpa using ih i
theorem alikeBut_take {l l' : List Oper} (h : AlikeBut l l') : ∀ n, AlikeBut (l.take n) (l'.take n) := by
  induction h with
  | nil => intro n; simpa using AlikeBut.nil
  | cons o es _ ih =>
    intro n
    cases n with
    | zero => exact .nil
    | succ n => exact .cons o es (ih n)
theorem alikeBut_drop {l l' : List Oper} (h : AlikeBut l l') : ∀ n, AlikeBut (l.drop n) (l'.drop n) := by
  induction h with
  | nil => intro n; simpa using AlikeBut.nil
  | cons o es h ih =>
    intro n
    cases n with
    | zero => exact .cons o es h
    | succ n => exact ih n
theorem alikeBut_app {l l' r r' : List Oper} (h : AlikeBut l l') (k : AlikeBut r r') : AlikeBut (l ++ r) (l' ++ r') := by
  induction h with
  | nil => exact k
  | cons o es _ ih => exact .cons o es ih

theorem yielded_late {ops ops' : Array Oper} (h : ∀ i : Nat, (ops'[i]?).bind (fun o => o.dst) = (ops[i]?).bind (fun o => o.dst)) (tmps : Array Value) : yielded ops' tmps = yielded ops tmps := by
  funext j
  unfold yielded
  rw [h j]

theorem wpQuiet_late {ops ops' : Array Oper} {C : World → Prop} (hy : ∀ i : Nat, (ops'[i]?).bind (fun o => o.dst) = (ops[i]?).bind (fun o => o.dst)) {Lq : Act → Prop} {l l' : List Oper} (h : AlikeBut l l') :
    ∀ a : Act, wpQuiet P ops C Lq l a → wpQuiet P ops' C Lq l' a := by
  induction h with
  | nil => intro a h; exact h
  | cons o es _ ih =>
    intro a h
    simp only [wpQuiet] at h ⊢
    rw [yielded_late hy]
    have e : Region.wanted { o with after := es } (yielded ops a.tmps) = Region.wanted o (yielded ops a.tmps) := rfl
    rw [e]
    split
    · rename_i hw
      rw [if_pos hw] at h
      obtain ⟨v, h1, h2⟩ := h
      exact ⟨v, h1, ih _ h2⟩
    · rename_i hw
      rw [if_neg hw] at h
      exact ih _ h

theorem wpList_late {ops ops' : Array Oper} (hy : ∀ i : Nat, (ops'[i]?).bind (fun o => o.dst) = (ops[i]?).bind (fun o => o.dst)) {l l' : List Oper} (h : AlikeBut l l') :
    ∀ (a : Act) (w : World), wpList P ops Q l a w → wpList P ops' Q l' a w := by
  induction h with
  | nil => intro a w h; exact h
  | cons o es _ ih =>
    intro a w h
    simp only [wpList] at h ⊢
    rw [yielded_late hy]
    have e : Region.wanted { o with after := es } (yielded ops a.tmps) = Region.wanted o (yielded ops a.tmps) := rfl
    rw [e]
    split
    · rename_i hw
      rw [if_pos hw] at h
      exact h.imp (fun h => Oper.wp_mono (o := o) (fun a w => ih a w) h) id
    · rename_i hw
      rw [if_neg hw] at h
      exact ih _ _ h

/-- Which operations only hand on. -/
def handsOn (o : Oper) : Bool := o.guard.isNone && match o.op with | .extract .. | .move _ | .assign _ => true | _ => false

theorem handsOn_yields {ops : Array Oper} {q : Nat} {oq : Oper} (hq : ops[q]? = some oq) (hp : handsOn oq = true) {K : Act → World → Prop} {a : Act} {w : World} (h : wpOp P ops Q q K a w) :
    ∃ v, Yields P ops oq v a ∧ K (a.put oq.dst v) w := by
  unfold wpOp at h
  simp only [hq] at h
  obtain ⟨dst, op, type, pos, after, guard⟩ := oq
  cases guard with
  | some g => simp [handsOn] at hp
  | none =>
  have hw : Region.wanted ⟨dst, op, type, pos, after, none⟩ (yielded ops a.tmps) = true := rfl
  rw [if_pos hw] at h
  have key : ∀ v : Value, execOp a.eval ⟨dst, op, type, pos, after, none⟩ = Sem.pure (.value v) → ∃ v, Yields P ops ⟨dst, op, type, pos, after, none⟩ v a ∧ K (a.put dst v) w := by
    intro v e
    refine ⟨v, .inl ⟨hw, fun w => by rw [e]; rfl⟩, ?_⟩
    rcases h with h | ⟨h, _⟩
    · unfold Oper.wp at h
      rw [e] at h
      exact h
    · unfold Oper.asks at h
      rw [e] at h
      simp [Sem.runT] at h
  have keyh : ∀ s, execOp a.eval ⟨dst, op, type, pos, after, none⟩ = Sem.halt (.stuck s) → ∃ v, Yields P ops ⟨dst, op, type, pos, after, none⟩ v a ∧ K (a.put dst v) w := by
    intro s e
    exfalso
    rcases h with h | ⟨h, _⟩
    · unfold Oper.wp at h
      rw [e] at h
      exact h
    · unfold Oper.asks at h
      rw [e] at h
      simp [Sem.runT] at h
  cases op <;> first | (simp [handsOn] at hp; done) | skip
  case move x => exact key (a.eval x) rfl
  case assign x => exact key (a.eval x) rfl
  case extract t ix =>
    cases ht : a.eval t with
    | tuple vs =>
      cases hv : vs[ix]? with
      | some v => exact key v (by simp [execOp, Instr.extract, ht, hv]; rfl)
      | none => exact keyh _ (by simp [execOp, Instr.extract, ht, hv]; rfl)
    | _ => exact keyh _ (by simp [execOp, Instr.extract, ht]; rfl)

/-- Whoever of js is ready has q's forerunners done: j waits, over at most three steps, for each of them. -/
def reachB (md : Region.Mode) (ops : Array Oper) : Nat → Nat → Nat → Bool
  | 0, _, _ => false
  | n + 1, j, d => Region.waitsFor md ops j d || (List.range ops.size).any fun m => Region.waitsFor md ops j m && reachB md ops n m d

theorem reach_listed {ops : Array Oper} {listed : Array Bool} (closed : ∀ j oj, ops[j]? = some oj → listed.getD j false = true → ∀ e ∈ oj.after, Region.binds md e = true → listed.getD e.on false = true) :
    ∀ (n j d : Nat), reachB md ops n j d = true → (∀ oj, ops[j]? = some oj → ∀ e ∈ oj.after, Region.binds md e = true → listed.getD e.on false = true) → listed.getD d false = true
  | 0, _, _, h, _ => by cases h
  | n + 1, j, d, h, hj => by
    simp only [reachB, Bool.or_eq_true, List.any_eq_true, Bool.and_eq_true] at h
    rcases h with h | ⟨m, _, hm, hd⟩
    · obtain ⟨oj, hoj, e, he, hb, rfl⟩ := Region.waitsFor_spec h
      exact hj oj hoj e he hb
    · obtain ⟨oj, hoj, e, he, hb, rfl⟩ := Region.waitsFor_spec hm
      have hl := hj oj hoj e he hb
      exact reach_listed closed n e.on d hd (fun om hom => closed _ om hom hl)

def lateB (md : Region.Mode) (l : List Oper) (q : Nat) (js : List Nat) : Bool :=
  Region.noSelect l.toArray && !js.contains q && js.all (fun j => decide (j < l.length)) &&
  (match l[q]? with
   | some oq => handsOn oq && (oq.after.toList.all fun e => !Region.binds md e || js.all fun j => reachB md l.toArray 4 j e.on) &&
     (List.range l.length).all fun j => j == q || Region.waitsFor md l.toArray q j || match l[j]? with
      | some oj => oj.after.any (fun e => Region.binds md e && e.on == q) || oq.apart l.toArray oj
      | none => true
   | none => false)

theorem wpAny_late {l : List Oper} {q : Nat} {js : List Nat} (hB : lateB md l q js = true) (hQ : ∀ (dst : Option Tmp) (v : Value) c a w, Q (.panic c) (Act.put a dst v) w → Q (.panic c) a w) :
    ∀ (fuel : Nat) (listed : Array Bool) (a : Act) (w : World), listed.size = l.length → (∀ j oj, l.toArray[j]? = some oj → listed.getD j false = true → ∀ e ∈ oj.after, Region.binds md e = true → listed.getD e.on false = true) →
      wpAny P md (late q js l).toArray Q fuel listed a w → wpAny P md l.toArray Q fuel listed a w := by
  simp only [lateB, Bool.and_eq_true, Bool.not_eq_true'] at hB
  obtain ⟨⟨⟨hsel, hqj⟩, hjs⟩, hq0⟩ := hB
  cases hoq : l[q]? with
  | none => rw [hoq] at hq0; cases hq0
  | some oq =>
  rw [hoq] at hq0
  simp only [Bool.and_eq_true] at hq0
  obtain ⟨⟨hp, hdeps⟩, hfree⟩ := hq0
  have hoq' : l.toArray[q]? = some oq := by simpa using hoq
  have get2 : ∀ i : Nat, (late q js l).toArray[i]? = (l.toArray[i]?).map fun o => if js.contains i then { o with after := o.after.push ⟨q, .data⟩ } else o := fun i => by
    simpa using late_get q js l i
  have hyd : ∀ i : Nat, ((late q js l).toArray[i]?).bind (fun o => o.dst) = (l.toArray[i]?).bind (fun o => o.dst) := fun i => by
    simpa using alikeBut_get (alikeBut_late q js l 0) i
  have hq2 : (late q js l).toArray[q]? = some oq := by rw [get2, hoq']; simp only [Option.map_some, hqj, Bool.false_eq_true, if_false]
  -- ready in the one and in the other
  have r2 : ∀ listed j, j ∈ Region.ready md (late q js l).toArray listed → j ∈ Region.ready md l.toArray listed := by
    intro listed j hj
    obtain ⟨h0, o, ho, hall⟩ := mem_ready.1 hj
    rw [get2] at ho
    obtain ⟨o1, ho1, rfl⟩ := Option.map_eq_some_iff.1 ho
    refine mem_ready.2 ⟨h0, o1, ho1, fun e he hb => hall e ?_ hb⟩
    split
    · simp [he]
    · exact he
  have r1 : ∀ listed j, j ∈ Region.ready md l.toArray listed → (js.contains j = true → listed.getD q false = true) → j ∈ Region.ready md (late q js l).toArray listed := by
    intro listed j hj hjq
    obtain ⟨h0, o, ho, hall⟩ := mem_ready.1 hj
    refine mem_ready.2 ⟨h0, if js.contains j then { o with after := o.after.push ⟨q, .data⟩ } else o, by rw [get2, ho]; rfl, fun e he hb => ?_⟩
    split at he
    · rename_i hc
      simp only [Array.mem_push] at he
      rcases he with he | rfl
      · exact hall e he hb
      · exact hjq hc
    · exact hall e he hb
  have rq : ∀ listed j, listed.size = l.length → (∀ j oj, l.toArray[j]? = some oj → listed.getD j false = true → ∀ e ∈ oj.after, Region.binds md e = true → listed.getD e.on false = true) →
      j ∈ Region.ready md l.toArray listed → js.contains j = true → listed.getD q false = false → q ∈ Region.ready md (late q js l).toArray listed := by
    intro listed j hsz closed hj hjc hun
    obtain ⟨_, oj, hoj, hall⟩ := mem_ready.1 hj
    have hql : q < l.length := (List.getElem?_eq_some_iff.1 hoq).1
    refine r1 listed q (mem_ready.2 ⟨getD_in (by omega) hun, oq, hoq', fun e he hb => ?_⟩) (fun h => by rw [hqj] at h; cases h)
    have h1 := List.all_eq_true.1 hdeps e (by simpa using he)
    simp only [hb, Bool.not_true, Bool.false_or] at h1
    have h2 := List.all_eq_true.1 h1 j (by simpa using hjc)
    exact reach_listed closed 4 j e.on h2 (fun oj' hoj' => by rw [hoj] at hoj'; obtain rfl := Option.some.inj hoj'; exact hall)
  have wp2 : ∀ i K a w, wpOp P (late q js l).toArray Q i K a w → wpOp P l.toArray Q i K a w := by
    intro i K a w h
    unfold wpOp at h ⊢
    rw [get2, yielded_late hyd] at h
    cases hi : l.toArray[i]? with
    | none => rw [hi] at h; exact h
    | some o =>
      rw [hi] at h
      simp only [Option.map_some] at h
      split at h
      · exact h
      · exact h
  intro fuel
  induction fuel with
  | zero =>
    intro listed a w hsz closed h
    refine ⟨?_, h.2⟩
    apply List.eq_nil_iff_forall_not_mem.2
    intro j hj
    have h2 := h.1
    by_cases hc : js.contains j = true ∧ listed.getD q false = false
    · have := rq listed j hsz closed hj hc.1 hc.2
      rw [h2] at this
      cases this
    · have := r1 listed j hj (fun h1 => by
        cases h3 : listed.getD q false with
        | true => rfl
        | false => exact absurd ⟨h1, h3⟩ hc)
      rw [h2] at this
      cases this
  | succ fuel ih =>
    intro listed a w hsz closed h
    have closed' : ∀ j, j ∈ Region.ready md l.toArray listed → ∀ k ok, l.toArray[k]? = some ok → (listed.setIfInBounds j true).getD k false = true → ∀ e ∈ ok.after, Region.binds md e = true → (listed.setIfInBounds j true).getD e.on false = true := by
      intro j hj k ok hk hl e he hb
      by_cases hkj : j = k
      · subst hkj
        obtain ⟨_, o, ho, hall⟩ := mem_ready.1 hj
        rw [hk] at ho
        obtain rfl := Option.some.inj ho
        exact getD_set_true (hall e he hb)
      · rw [getD_set_ne false hkj] at hl
        exact getD_set_true (closed k ok hk hl e he hb)
    by_cases hqr : q ∈ Region.ready md (late q js l).toArray listed
    · obtain ⟨v, hy, hK⟩ := handsOn_yields hq2 hp (h.2 q hqr)
      have hr := r2 _ _ hqr
      have h1 := ih _ _ _ (by simpa using hsz) (closed' q hr) hK
      have hy' : Yields P l.toArray oq v a := by
        unfold Yields at hy ⊢
        rwa [yielded_late hyd] at hy
      refine wpAny_first hoq' (Region.noSelect_spec hsel) (hQ oq.dst v) fuel listed a w (fun j oj hj hjq hun hno => ?_) hr hy' h1
      have h2 := List.all_eq_true.1 hfree j (List.mem_range.2 (by simpa using (Array.getElem?_eq_some_iff.1 hj).1))
      have hj' : l[j]? = some oj := by simpa using hj
      simp only [hj', Bool.or_eq_true, beq_iff_eq, hjq, false_or] at h2
      rcases h2 with h2 | h2 | h2
      · obtain ⟨ok, hok, e, he, hb, rfl⟩ := Region.waitsFor_spec h2
        obtain ⟨_, or, hor, hall⟩ := mem_ready.1 hr
        rw [hor] at hok
        obtain rfl := Option.some.inj hok
        have h3 := hall e he hb
        rw [getD_both hun] at h3
        cases h3
      · obtain ⟨e, he, hb⟩ := Array.any_eq_true'.1 h2
        simp only [Bool.and_eq_true, beq_iff_eq] at hb
        exact absurd hb.2 (hno e he hb.1)
      · exact h2
    · have same : ∀ j, j ∈ Region.ready md l.toArray listed → j ∈ Region.ready md (late q js l).toArray listed := fun j hj => by
        refine r1 listed j hj (fun h1 => ?_)
        cases h3 : listed.getD q false with
        | true => rfl
        | false => exact absurd (rq listed j hsz closed hj h1 h3) hqr
      refine ⟨fun h0 => h.1 (List.eq_nil_iff_forall_not_mem.2 fun j hj => ?_), fun i hi => ?_⟩
      · have := r2 _ _ hj
        rw [h0] at this
        cases this
      · exact wpOp_mono (fun a' w' h3 => ih _ a' w' (by simpa using hsz) (closed' i hi) h3) (wp2 i _ a w (h.2 i (same i hi)))

theorem wp_region_late {id : Nat} {a : Act} {w : World} {l : List Oper} (q : Nat) (js : List Nat) (hmo : P.follows .mixedOrders = true) (hB : lateB .any l q js = true)
    (hQ : ∀ (dst : Option Tmp) (v : Value) c a w, Q (.panic c) (Act.put a dst v) w → Q (.panic c) a w)
    (h : wpAny P .any (late q js l).toArray Q l.length (Array.replicate l.length false) a { w with drawn := w.drawn + 1 }) : (Code.region id l.toArray true).wp P Q a w := by
  refine wp_region_any hmo ?_
  have := wpAny_late (P := P) (Q := Q) hB hQ l.length (Array.replicate l.length false) a { w with drawn := w.drawn + 1 } (by simp) (fun j oj _ hl => by rw [getD_replicate_false] at hl; cases hl) h
  simpa using this

/-- .. with one new variable: 'wp_region_float', with q put ahead of js. -/
theorem wp_region_late_float {id : Nat} {a : Act} {w : World} {l : List Oper} (q : Nat) (js : List Nat) (m n : Nat) (om : Oper) (O : Obj) (hmo : P.follows .mixedOrders = true) (hL : lateB .any l q js = true)
    (hQ : ∀ (dst : Option Tmp) (v : Value) c a w, Q (.panic c) (Act.put a dst v) w → Q (.panic c) a w) (hjm : js.contains m = false) (hB : floatB (late q js l).toArray m n = true) (hom : l[m]? = some om) (hguard : om.guard = none)
    (hal : ∀ (ρ : Operand → Value) (w1 : World), (execOp ρ om).run P w1 = .ok (.value (.pointer (some ⟨w1.heap.size, 0, none⟩))) (w1.alloc O)) (B K : Nat) (hK : B + K ≤ w.heap.size)
    (h : ∀ W, (∀ (k : Kin W) (b o : Nat), b < B + K → k.it.cell? ⟨b, o, none⟩ = w.cell? ⟨b, o, none⟩) → Below w.heap.size w W →
      wpQuiet P l.toArray (fun w' => ∃ k : Kin W, w' = k.it) (fun a' => ∀ w' b, Below w.heap.size w w' → w.heap.size ≤ b → w'.heap[b]? = some O →
        wpList P l.toArray Q (l.drop n) (a'.put om.dst (.pointer (some ⟨b, 0, none⟩))) w') (l.take m ++ (l.take n).drop (m + 1)) a) : (Code.region id l.toArray true).wp P Q a w := by
  refine wp_region_late q js hmo hL hQ ?_
  have hal' := alikeBut_late q js l 0
  have hyd : ∀ i : Nat, ((late q js l).toArray[i]?).bind (fun o => o.dst) = (l.toArray[i]?).bind (fun o => o.dst) := fun i => by
    simpa using alikeBut_get hal' i
  have hom2 : (late q js l)[m]? = some om := by rw [late_get, hom]; simp only [Option.map_some, hjm, Bool.false_eq_true, if_false]
  have := any_float (P := P) (Q := Q) (a := a) (w := w) (l := late q js l) m n om O hB hom2 hguard hal B K hK (fun W hk hW => by
    have h1 := h W hk hW
    refine wpQuiet_late hyd (alikeBut_app (alikeBut_take hal' m) (alikeBut_drop (alikeBut_take hal' n) (m + 1))) a (wpQuiet_mono (fun a' h2 w' b h3 h4 h5 => ?_) _ _ h1)
    exact wpList_late hyd (alikeBut_drop hal' n) _ _ (h2 w' b h3 h4 h5))
  have e : (late q js l).length = l.length := lateFrom_len q js l 0
  rw [show (late q js l).toArray.size = l.length by simpa using e] at this
  exact this

/-- .. with no new variable: the first n operations quiet, the others behind them in their one order. -/
theorem wp_region_late_tail {id : Nat} {a : Act} {w : World} {l : List Oper} (q : Nat) (js : List Nat) (n : Nat) (hmo : P.follows .mixedOrders = true) (hL : lateB .any l q js = true)
    (hQ : ∀ (dst : Option Tmp) (v : Value) c a w, Q (.panic c) (Act.put a dst v) w → Q (.panic c) a w) (hB : Region.lexTailB .any (late q js l).toArray n = true) (B K : Nat) (hK : B + K ≤ w.heap.size)
    (h : (∀ (k : Kin w) (b o : Nat), b < B + K → k.it.cell? ⟨b, o, none⟩ = w.cell? ⟨b, o, none⟩) →
      wpQuiet P l.toArray (fun w' => ∃ k : Kin w, w' = k.it) (fun a' => ∀ w', Below w.heap.size w w' → wpList P l.toArray Q (l.drop n) a' w') (l.take n) a) : (Code.region id l.toArray true).wp P Q a w := by
  refine wp_region_late q js hmo hL hQ ?_
  have hal' := alikeBut_late q js l 0
  have hyd : ∀ i : Nat, ((late q js l).toArray[i]?).bind (fun o => o.dst) = (l.toArray[i]?).bind (fun o => o.dst) := fun i => by
    simpa using alikeBut_get hal' i
  have := any_kin_tail (P := P) (Q := Q) (a := a) (w := w) (l := late q js l) n hB B K hK (fun hk =>
    wpQuiet_late hyd (alikeBut_take hal' n) a (wpQuiet_mono (fun a' h2 w' h3 => wpList_late hyd (alikeBut_drop hal' n) _ _ (h2 w' h3)) _ _ (h hk)))
  have e : (late q js l).length = l.length := lateFrom_len q js l 0
  rw [show (late q js l).toArray.size = l.length by simpa using e] at this
  exact this
end
end Go.Proofs.YtnhlhoijajhcjaaDoor
