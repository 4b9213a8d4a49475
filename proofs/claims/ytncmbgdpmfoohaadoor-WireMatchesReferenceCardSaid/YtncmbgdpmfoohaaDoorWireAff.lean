/- WireSumAffine: the checksum of three strings' XOR is the XOR of their checksums. -/
import Derived.Test.YtncmbgdpmfoohaaDoorWireCut
import Derived.Test.YtncmbgdpmfoohaaDoorWireFrame
import Derived.Test.YtncmbgdpmfoohaaDoorBytes
import Derived.StillTailTactics
namespace Go.Proofs.YtncmbgdpmfoohaaDoor
open Go.RowKit Go.ChangeShapes Go.WideShapes Go.ChangeAt

theorem xor8 (a b : UInt8) : bits BinOp.xor IntKind.u8 (a.toNat : Int) (b.toNat : Int) = ((a ^^^ b).toNat : Int) := by
  have ha := a.toNat_lt
  have hb := b.toNat_lt
  have e : (BitVec.ofInt 8 (a.toNat : Int) ^^^ BitVec.ofInt 8 (b.toNat : Int)).toNat = (a ^^^ b).toNat := by
    rw [BitVec.toNat_xor, BitVec.ofInt_natCast, BitVec.ofInt_natCast, BitVec.toNat_ofNat, BitVec.toNat_ofNat, Nat.mod_eq_of_lt ha, Nat.mod_eq_of_lt hb, UInt8.toNat_xor]
  show IntKind.u8.wrap (((BitVec.ofInt 8 (a.toNat : Int) ^^^ BitVec.ofInt 8 (b.toNat : Int)).toNat : Nat) : Int) = _
  rw [e]
  have hx := (a ^^^ b).toNat_lt
  generalize (a ^^^ b).toNat = x at *
  simp [IntKind.wrap, IntKind.bits, IntKind.signed]
  omega
theorem xor64 {a b : Nat} (ha : a < 2 ^ 32) (hb : b < 2 ^ 32) : bits BinOp.xor IntKind.i64 (a : Int) (b : Int) = ((a ^^^ b : Nat) : Int) := by
  have h : a ^^^ b < 2 ^ 32 := Nat.xor_lt_two_pow ha hb
  have e : (BitVec.ofInt 64 (a : Int) ^^^ BitVec.ofInt 64 (b : Int)).toNat = a ^^^ b := by
    rw [BitVec.toNat_xor, BitVec.ofInt_natCast, BitVec.ofInt_natCast, BitVec.toNat_ofNat, BitVec.toNat_ofNat, Nat.mod_eq_of_lt (by omega), Nat.mod_eq_of_lt (by omega)]
  show IntKind.i64.wrap (((BitVec.ofInt 64 (a : Int) ^^^ BitVec.ofInt 64 (b : Int)).toNat : Nat) : Int) = _
  rw [e]
  generalize a ^^^ b = x at *
  simp [IntKind.wrap, IntKind.bits, IntKind.signed]
  omega

/-- the bytes of three strings' XOR -/
def xor3 (a b c : ByteArray) (n : Nat) : List UInt8 := List.zipWith (fun p q => p ^^^ q) (List.zipWith (fun p q => p ^^^ q) (a.data.toList.take n) (b.data.toList.take n)) (c.data.toList.take n)
theorem xor3_len {a b c : ByteArray} {n : Nat} (h1 : n ≤ a.size) (h2 : n ≤ b.size) (h3 : n ≤ c.size) : (xor3 a b c n).length = n := by
  simp [xor3]; omega
theorem xor3_get {a b c : ByteArray} {n k : Nat} (h1 : n ≤ a.size) (h2 : n ≤ b.size) (h3 : n ≤ c.size) (hk : k < n) : (xor3 a b c n)[k]? = some (a[k] ^^^ b[k] ^^^ c[k]) := by
  have e1 : (a.data.toList.take n)[k]? = some a[k] := by rw [List.getElem?_take_of_lt hk, List.getElem?_eq_getElem (by simp; omega)]; rfl
  have e2 : (b.data.toList.take n)[k]? = some b[k] := by rw [List.getElem?_take_of_lt hk, List.getElem?_eq_getElem (by simp; omega)]; rfl
  have e3 : (c.data.toList.take n)[k]? = some c[k] := by rw [List.getElem?_take_of_lt hk, List.getElem?_eq_getElem (by simp; omega)]; rfl
  simp [xor3, List.getElem?_zipWith, e1, e2, e3]
theorem run_index_at {P : Program} (w : World) (t : TypeId) (s : ByteArray) (k : IntKind) (i : Nat) (h : P.underlying t = some .string) (hi : i < s.size) :
    (Instr.index t (.string s) (.int k (i : Int))).run P w = .ok (.int .u8 (s[i]'hi).toNat) w := by
  rw [run_index_string w t s k i h, dif_pos (by omega)]
  rfl
theorem take_set {C : List Value} {X : List UInt8} {n k : Nat} {v : UInt8} (h : C.take k = (X.take k).map byteV) (hC : C.length = n) (hX : X.length = n) (hk : k < n) (hv : X[k]? = some v) : (C.set k (byteV v)).take (k + 1) = (X.take (k + 1)).map byteV := by
  rw [List.take_add_one, List.take_add_one, List.map_append, ← h, List.take_set_of_le (Nat.le_refl _), hv]
  simp [show k < C.length by omega]
theorem infoByte' : (Tryd.prog.info? 5).map (fun i => (i.zero, i.size, i.bytes)) = some (some (.int .u8 0), 1, 1) := by kernel_rfl

set_option maxRecDepth 100000 in
set_option maxHeartbeats 4000000 in
theorem wireSumAffine_any (a b c : ByteArray) (w : World) (T : Tab w) (a0 : a.size ≤ maxLen) (a1 : b.size ≤ maxLen) (a2 : c.size ≤ maxLen) :
    Calls Tryd.prog 9 #[.string a, .string b, .string c] w fun r w' => r = .returned (.bool true) ∧ Below w.heap.size w w' := by
  have HT := Lib.hid T
  have BB := Lib.hid (Below.refl w.heap.size w)
  unfold maxLen at a0 a1 a2
  clear T
  go_enter Tryd.func9, Tryd.ntmps9
  go_wp2_with fail
  refine (sane_any _ HT.out).mono ?_
  rintro e w1 ⟨rfl, hb⟩
  have HB := Lib.hid hb
  have hW : Below w.heap.size w w1 := by (repeat' first | exact Below.refl _ _ | assumption | (refine Below.andThen ?_ HB.out) | (exact HB.out.size) | (refine below_drewN ?_ _) | (refine Below.drew ?_) | (refine Below.alloc ?_ ?_ _) | (refine Below.setCell ?_ ?_ _) | (simp; done) | (simp; omega) | omega)
  replace BB := Lib.hid (Below.andThen BB.out hW)
  replace HT := Lib.hid (HT.out.next hW)
  clear hb hW HB
  obtain ⟨n, hn⟩ : ∃ n : Nat, n = min (min (min a.size b.size) c.size) 200 := ⟨_, rfl⟩
  go_upto_region 2 with (fail)
  go_cut [8] (fun v wx => v = .int .i64 n ∧ wx = w1)
  case first =>
    have hm := fun (w : World) ts t => run_min4 (P := Tryd.prog) w ts t a.size b.size c.size 200
    go_wp2_with fail
    go_meet
    exact ⟨congrArg (Value.int .i64) (by omega), rfl⟩
  obtain ⟨rfl, rfl⟩ := hcut
  rename World => w1
  have n1 : n ≤ a.size := by omega
  have n2 : n ≤ b.size := by omega
  have n3 : n ≤ c.size := by omega
  have n4 : n ≤ 200 := by omega
  clear hn
  obtain ⟨i0, hi, hz0, hz1, hz2⟩ := info_parts infoByte'
  have hmk := run_make_row (P := Tryd.prog) w1 38 5 i0 _ 1 Tryd.underlying38 hi hz0 hz1 hz2 rfl n (by omega) (by omega)
  go_wp2_with fail
  clear hmk
  have R0 := Row.new w1 5 (List.replicate n (.int .u8 0))
  have HB1 := Lib.hid (show Below w1.heap.size w1 (w1.alloc (.cells (List.replicate n (.int .u8 0)).toArray 5)) from (Below.refl _ _).alloc (Nat.le_refl _) _)
  have xl := xor3_len n1 n2 n3
  go_loopw [10] (fun i wr => ∃ (k : Nat) (C : List Value), k ≤ n ∧ i = .int .i64 k ∧ Row wr w1.heap.size 5 C ∧ C.length = n ∧ C.take k = ((xor3 a b c n).take k).map byteV ∧ Below w1.heap.size w1 wr) (fun i _ => n - (intOf i).toNat)
  case atStart => exact ⟨0, _, Nat.zero_le _, rfl, R0, by simp, by simp, HB1.out⟩
  case round =>
    obtain ⟨k, C, hk, rfl, hR, hC, hT, hB⟩ := hrel
    by_cases hlt : k < n
    · have hc : wr.cell? ⟨w1.heap.size, k, none⟩ = some C[k] := by rw [hR.cell]; exact List.getElem?_eq_getElem (by omega)
      have hf := hR.frozen k
      have e1 := xor8 a[k] b[k]
      have e2 := xor8 (a[k] ^^^ b[k]) c[k]
      have x1 : k < a.size := by omega
      have x2 : k < b.size := by omega
      have x3 : k < c.size := by omega
      have i1 := fun (w : World) => run_index_at (P := Tryd.prog) w 9 a .i64 k rfl x1
      have i2 := fun (w : World) => run_index_at (P := Tryd.prog) w 9 b .i64 k rfl x2
      have i3 := fun (w : World) => run_index_at (P := Tryd.prog) w 9 c .i64 k rfl x3
      have HT2 := Lib.hid hT
      have HR := Lib.hid hR
      have HB := Lib.hid hB
      clear hT hR hB
      go_wp2_with fail
      refine wp_region_kin_tail 14 (by kernel_rfl) (by kernel_rfl) wr.heap.size 0 (by simp) (fun hk => ?_)
      simp only [List.take_succ_cons, List.take_zero, List.drop_succ_cons, List.drop_zero]
      repeat (go_big_quiet_step (fail))
      refine wpQuiet_nil ?_
      clear hk
      intro W2 hb
      have hc := (HR.out.next hb).cell k
      rw [List.getElem?_eq_getElem (show k < C.length by omega)] at hc
      have hf := (HR.out.next hb).frozen k
      have HB2 := Lib.hid hb
      clear hb
      go_wp2
      go_roundw
      case rel =>
        refine ⟨k + 1, C.set k (byteV (a[k] ^^^ b[k] ^^^ c[k])), by omega, by go_num, ?_, by simp [hC], ?_, ?_⟩
        · have ev : Value.int .u8 (bits BinOp.xor .u8 ((a[k].toNat ^^^ b[k].toNat : Nat) : Int) (c[k].toNat : Int)) = byteV (a[k] ^^^ b[k] ^^^ c[k]) := by
            rw [← UInt8.toNat_xor]
            exact congrArg _ e2
          rw [ev]
          exact ((HR.out.next HB2.out).set k _)
        · exact take_set HT2.out hC xl hlt (xor3_get n1 n2 n3 hlt)
        · exact (Below.andThen HB.out HB2.out).setCell (by simp) _
      case measure => simp [intOf]; omega
    · have hkn : k = n := by omega
      subst hkn
      have hCX : C = (xor3 a b c k).map byteV := by
        rw [List.take_of_length_le (by omega), List.take_of_length_le (by omega)] at hT
        exact hT
      subst hCX
      have hx := fun (q : Kin wr) => Row.text (P := Tryd.prog) (hR.next q.below) 38 9 5 k rfl rfl rfl
      rw [xl] at hx
      have hs0 := Lib.hid (show (⟨(xor3 a b c k).toArray⟩ : ByteArray).size ≤ maxLen by unfold maxLen; show (xor3 a b c k).toArray.size ≤ _; simp [xl]; omega)
      replace HT := Lib.hid (HT.out.next hB)
      replace BB := Lib.hid (Below.andThen BB.out hB)
      clear hT hR hB hC
      go_wp2_with fail
      refine wp_region_kin (by kernel_rfl) (by kernel_rfl) (wr.heap.size) 0 (by first | assumption | (simp; done) | (simp; omega) | omega | (have := HS.out; omega)) (fun hk => ?_)
      repeat (go_big_quiet_step ((go_at_call 21; exact Calls.kin_same (sum_any _ _ (by first | exact hs0.out | (unfold maxLen; rw [ByteArray.size_extract]; omega)) (HT.out.next (Kin.below _))))))
      refine wpQuiet_nil ?_
      clear hk
      intro w9 hb
      have HB := Lib.hid hb
      have hW : Below wr.heap.size wr w9 := by (repeat' first | exact Below.refl _ _ | assumption | (refine Below.andThen ?_ HB.out) | (exact HB.out.size) | (refine below_drewN ?_ _) | (refine Below.drew ?_) | (refine Below.alloc ?_ ?_ _) | (refine Below.setCell ?_ ?_ _) | (simp; done) | (simp; omega) | omega)
      replace BB := Lib.hid (Below.andThen BB.out hW)
      replace HT := Lib.hid (HT.out.next hW)
      clear hb hW HB
      have hv : ((sumN (xor3 a b c k) : Int) == bits BinOp.xor .i64 (bits BinOp.xor .i64 (sumN (List.take k a.data.toList) : Int) (sumN (List.take k b.data.toList) : Int)) (sumN (List.take k c.data.toList) : Int)) = true := by
        rw [xor64 (sumN_lt _) (sumN_lt _), xor64 (Nat.xor_lt_two_pow (sumN_lt _) (sumN_lt _)) (sumN_lt _), show sumN (xor3 a b c k) = _ from sum_three _ _ _ (by simp; omega) (by simp; omega)]
        simp
      rw [hv]
      go_wp2_with fail
      go_ret
      exact ⟨rfl, BB.out⟩
namespace wireSumAffine
set_option maxRecDepth 100000 in
theorem contract (H : Type) (enc : TypeId × Value → H) (W : World) (base : Nat) (args : Array Value) (ds gs : List (DataW H)) (before : List MemPlace)
    (hval : ∀ (j : Nat) t v, Tryd.f9.params[j]? = some t → args[j]? = some v → Value.okWide Tryd.prog W .any base t v)
    (hW : DataW.Whole enc Tryd.prog Tryd.f9.params.toList Rows.wireSumAffineSpec.vars false W args.toList ds gs before) (hL : laidMetH Tryd.prog Rows.wireSumAffineRow.laid W) :
    Calls Tryd.prog 9 args W fun e W' => ∃ v, e = .returned v ∧ Rows.wireSumAffineSpec.post enc Tryd.prog Tryd.f9 false true false false W args v W' := by
  have hW' := hW
  obtain ⟨p, q, hA0, hV, rfl, hfz, hnd⟩ := hW
  have hA : DataW.TrodAll enc Tryd.prog W 0 (fun _ => true) true Tryd.f9.params.toList args.toList ds p := hA0
  rw [Tryd.params9] at hA hval
  obtain ⟨v0, vs0, d0, ds0, p0, q0, hargs, rfl, rfl, h0, r0⟩ := trodAll_cons hA
  obtain ⟨v1, vs1, d1, ds1, p1, q1, rfl, rfl, rfl, h1, r1⟩ := trodAll_cons r0
  obtain ⟨v2, vs2, d2, ds2, p2, q2, rfl, rfl, rfl, h2, r2⟩ := trodAll_cons r1
  obtain ⟨rfl, rfl, rfl⟩ := trodAll_nil r2
  obtain rfl : args = #[v0, v1, v2] := by cases args; simp_all
  obtain ⟨a0, rfl, rfl, rfl, k0⟩ := Go.ChangeMaps.open_string Tryd.underlying9 (hval 0 _ _ rfl rfl) h0
  obtain ⟨a1, rfl, rfl, rfl, k1⟩ := Go.ChangeMaps.open_string Tryd.underlying9 (hval 1 _ _ rfl rfl) h1
  obtain ⟨a2, rfl, rfl, rfl, k2⟩ := Go.ChangeMaps.open_string Tryd.underlying9 (hval 2 _ _ rfl rfl) h2
  refine (wireSumAffine_any a0 a1 a2 W (tab hL) k0 k1 k2).mono fun e W' ⟨he, hb⟩ => ?_
  subst he
  obtain ⟨rfl, _⟩ := trodVars_none hV
  exact ⟨_, rfl, law_post laidOut (by kernel_rfl) rfl (by kernel_rfl) Tryd.underlying4 hW' rfl hb⟩

def args0 : Array Value := #[.string ⟨#[]⟩, .string ⟨#[]⟩, .string ⟨#[]⟩]
theorem laid_met (os : Os) : laidMet Tryd.prog Rows.wireSumAffineRow.laid ((laidWorld os).forCall (fun _ _ => 0) ⟨#[], args0, []⟩).memory :=
  laidMet_of_run' 8 (by kernel_rfl) (by kernel_rfl)
theorem reads (os : Os) {H : Type} (enc : TypeId × Value → H) : ∃ places, DataW.whole enc Tryd.prog ((laidWorld os).forCall (fun _ _ => 0) ⟨#[], args0, []⟩).memory Tryd.f9.params.toList Rows.wireSumAffineSpec.vars false args0.toList 8 = some ([.lit (.string []), .lit (.string []), .lit (.string [])], [], places) :=
  ⟨[], by kernel_rfl⟩

set_option maxRecDepth 100000 in
theorem lifted (os : Os) (started : os.Started) (H : Type) (enc : TypeId × Value → H) (F : Stop.Interp) :
    ReturnsInHanded {} Tryd.checked os 9 .any ((OpenSpec.ofChange Rows.wireSumAffineSpec).preRow enc Tryd.prog Tryd.f9 Rows.wireSumAffineRow.domain false Rows.wireSumAffineRow.laid) (((OpenSpec.ofChange Rows.wireSumAffineSpec).at F).post enc Tryd.prog Tryd.f9 false true false false) := by
  obtain ⟨places, hx⟩ := reads os enc
  refine returnsInHanded_of_row (C := Tryd.checked) (s := OpenSpec.ofChange Rows.wireSumAffineSpec) own started (by kernel_rfl) Tryd.func9
    (witness_row_at (enc := enc) (C := Tryd.checked) false (laidWorld os) args0 rfl (by kernel_rfl) (by kernel_rfl) (by kernel_rfl)
      (OpenSpec.preRow_of_cond 8 hx (by kernel_rfl) (fun k hk => by cases hk) (by kernel_rfl) (laid_met os))) ?_
  intro W base args ds gs before hval hW _ _ _ hL _ _
  exact contract H enc W base args ds gs before hval hW hL

theorem said : Rows.WireSumAffineSaid :=
  OpenClaim.holds_of_cond 9 Tryd.f9 rfl rfl rfl rfl rfl rfl rfl ⟨rfl, rfl, rfl, rfl, rfl⟩ rfl rfl rfl rfl rfl (by kernel_rfl) Tryd.func9 (by kernel_rfl)
    (of_decide_eq_true (by kernel_rfl)) (by unfold Func.isWrapper; first | (rw [if_pos (by decide +kernel)]; kernel_rfl) | (rw [if_neg (by decide +kernel)]; exact ⟨rfl, rfl⟩))
    (fun os started H enc _ F => by rw [OpenClaim.pre_eq_preRow]; exact lifted os started H enc F)

theorem plain (f : FuncId) (fn : Func) (hf : Tryd.pinned.checked.prog.funcNamed "newswire/newswirelaw01.WireSumAffine" = some f) (hfn : Tryd.pinned.checked.prog.funcs[f]? = some fn) :
    false = Tryd.pinned.checked.prog.looks [] ∧ ∀ (j : Nat) t, fn.params[j]? = some t → Tryd.pinned.checked.prog.wantsStandIn t = false := by
  obtain rfl : f = 9 := Option.some.inj ((show Tryd.prog.funcNamed "newswire/newswirelaw01.WireSumAffine" = some 9 by kernel_rfl).symm.trans hf) |>.symm
  obtain rfl : fn = Tryd.f9 := (Option.some.inj (Tryd.func9.symm.trans hfn)).symm
  refine ⟨by kernel_rfl, fun j t ht => ?_⟩
  have all : (Tryd.f9.params.toList.all fun t => Tryd.prog.wantsStandIn t == false) = true := by kernel_rfl
  have := List.all_eq_true.1 all t (by rw [← Array.mem_def]; exact Array.mem_of_getElem? ht)
  exact (show Tryd.prog.wantsStandIn t = false by simpa using this)

/-- The statement. -/
theorem card : Rows.WireSumAffineCardSaid :=
  Claim7.holds_tied_plain_at .later [] _ _ _ _ said (fun _ h => by cases h) (by kernel_rfl) (fun _ h => by cases h) wireSumAffine_row_tie rfl ⟨rfl, rfl⟩ (by kernel_rfl) rfl plain (by kernel_rfl)
end wireSumAffine
end Go.Proofs.YtncmbgdpmfoohaaDoor
