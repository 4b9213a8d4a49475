/- Natural numbers in groups: reading. -/
import Derived.Test.YtjhnfejlkljkjaaGreatDoorIntM
import Derived.Test.YtjhnfejlkljkjaaGreatDoorIntAtoi
import Derived.Lib.OthersKept
namespace Go.Proofs.YtjhnfejlkljkjaaGreatDoor
open Go.RowKit

theorem own_nats {w : World} {B : Nat} {t : TypeId} {v : Value} {n : Nat} {xs : List Nat} (h : w.ownsRow B t 1 v n (xs.map natV)) : ∃ o c, v = .slice o n c ∧ n ≤ c ∧ c ≤ maxLen ∧ (o = none → c = 0) ∧ LSl w o xs := by
  have h0 := h
  have hl : xs.length = n := by simpa using h.1
  rcases h.2 with ⟨rfl, rfl⟩ | ⟨g, cap, cur, rfl, hg, hb, h1, h2, _⟩
  · exact ⟨none, 0, rfl, Nat.le_refl _, by unfold maxLen; omega, fun _ => rfl, .inl (List.eq_nil_of_length_eq_zero hl)⟩
  · exact ⟨_, cap, rfl, h1, h2, fun h => (by cases h), own_lsl h0⟩
/-- the bytes of a string are digits -/
def Digs (s : ByteArray) : Prop := ∀ c ∈ s.data.toList, In.isDig c = true
theorem ext_list (s : ByteArray) (a b : Nat) : (s.extract a b).data.toList = (s.data.toList.take b).drop a := by
  simp [ByteArray.data_extract, Array.toList_extract, List.extract_eq_take_drop, List.drop_take]
theorem take_val {l : List UInt8} {k : Nat} {c : UInt8} (h : l[k]? = some c) : In.val10 (l.take (k + 1)) = 10 * In.val10 (l.take k) + In.dval c := by
  rw [List.take_add_one, h, Option.toList_some, In.val10_snoc]
theorem ba_at (s : ByteArray) (i : Nat) (h : i < s.size) : s.data.toList[i]? = some (s[i]'h) := by
  rw [List.getElem?_eq_getElem (by simpa using h)]
  simp
  rfl
set_option maxRecDepth 100000 in
set_option maxHeartbeats 2000000 in
theorem parseN_any (s : ByteArray) (w : World) (hd : Digs s) (hs : s.size ≤ 1000) :
    Calls Tryz.prog 65 #[.string s] w fun e w' => ∃ r, e = .returned r ∧ NSl w' r (In.val10 s.data.toList) ∧ Below w.heap.size w w' := by
  obtain ⟨i0, hi, hz0, hz1, hz2⟩ := info_parts infoInt
  have HD := Lib.hid hd
  obtain ⟨l, hl⟩ : ∃ l, l = s.data.toList := ⟨_, rfl⟩
  have HLS := Lib.hid hl
  have hll : l.length = s.size := by rw [hl]; simp
  have HLL := Lib.hid hll
  rw [← hl]
  clear hd hl hll
  go_enter Tryz.func65, Tryz.ntmps65
  go_wp2_with fail
  go_loopw [3, 4] (fun av ev wr => ∃ (z : Int) (ds : List Nat), ev = .int .i64 z ∧ z ≤ s.size ∧ -4 ≤ z ∧ wr.ownsRow w.heap.size 3 1 av ds.length (ds.map natV) ∧ 4 * (ds.length : Int) ≤ (s.size : Int) - z ∧ (∀ x ∈ ds, x < 10000) ∧ In.nv 10000 ds + 10000 ^ ds.length * In.val10 (l.take z.toNat) = In.val10 l ∧ Below w.heap.size w wr) (fun _ ev _ => (intOf ev).toNat)
  case atStart => exact ⟨s.size, [], rfl, by omega, by omega, World.ownsRow_nil _ _ _ _, by simp, (fun x hx => by cases hx), by rw [Int.toNat_natCast, List.take_of_length_le (by rw [HLL.out]; exact Nat.le_refl _)]; simp [In.nv], Below.refl _ _⟩
  case round =>
    obtain ⟨z, ds, rfl, hz, hz4, hrow, hlen, hlt, hval, hB⟩ := hrel
    by_cases h0 : 0 < z
    · obtain ⟨e, rfl⟩ := Int.eq_ofNat_of_zero_le (Int.le_of_lt h0)
      have HK := Lib.hid (And.intro hlt (And.intro hval hB))
      rw [Int.toNat_natCast] at HK
      have hm : max 0 ((e : Int) - 4) = ((e - 4 : Nat) : Int) := by omega
      obtain ⟨p, hp⟩ : ∃ p, p = s.extract (e - 4) e := ⟨_, rfl⟩
      have hpl : p.data.toList = (l.take e).drop (e - 4) := by rw [hp, ext_list, HLS.out]
      have HP := Lib.hid hpl
      have hps : p.size = e - (e - 4) := by rw [hp, ByteArray.size_extract]; omega
      have hps4 : p.size ≤ 4 := by omega
      have HPD := Lib.hid (show ∀ c ∈ p.data.toList, In.isDig c = true from fun c hc => HD.out c (by
        rw [← HLS.out]
        rw [hpl] at hc
        exact List.mem_of_mem_take (List.mem_of_mem_drop hc)))
      have hx : s.extract (e - 4) e = p := hp.symm
      have e1 : e - 4 ≤ e := by omega
      have hr := hB.size
      clear hlt hval hB hpl hps hp
      go_wp2_with fail
      go_loopw [5] (fun gv wx => ∃ pos : Nat, pos ≤ p.size ∧ gv = .int .i64 (In.val10 (p.data.toList.take pos) : Nat) ∧ wx = wr.iter p pos) (fun _ wx => p.size - wx.iterPos wr.heap.size)
      case atStart => exact ⟨0, Nat.zero_le _, rfl, rfl⟩
      case round =>
        obtain ⟨pos, hpos, rfl, rfl⟩ := hrel
        by_cases hlt : pos < p.size
        · have hc := ba_at p pos hlt
          have hcd := HPD.out _ (List.mem_of_getElem? hc)
          simp only [In.isDig, Bool.and_eq_true, decide_eq_true_eq] at hcd
          have HN := Lib.hid (take_val hc)
          have hb := In.val10_lt (p.data.toList.take pos) (fun c hc => HPD.out c (List.mem_of_mem_take hc))
          have hb4 : In.val10 (p.data.toList.take pos) < 10000 := by
            refine Nat.lt_of_lt_of_le hb ?_
            have : (p.data.toList.take pos).length ≤ 4 := by rw [List.length_take]; omega
            exact Nat.pow_le_pow_right (n := 10) (by decide) this
          have hn := fun ty => run_next_ascii (P := Tryz.prog) wr p pos ty hlt (by omega)
          unfold In.dval at HN
          clear hc hb
          generalize (p[pos]'hlt).toNat = x at *
          generalize In.val10 (p.data.toList.take pos) = acc at *
          have w1 : IntKind.i32.wrap ((x : Int) - 48) = (x : Int) - 48 := by simp [IntKind.wrap, IntKind.bits, IntKind.signed]; omega
          go_wp2_with fail
          go_roundw
          case rel => exact ⟨pos + 1, hlt, by rw [HN.out]; go_num, rfl⟩
          case measure => simp [World.iterPos, World.iter_heap]; omega
        · obtain rfl : pos = p.size := by omega
          rw [List.take_of_length_le (by simp)]
          have hgl := In.val10_lt p.data.toList HPD.out
          have hg4 : In.val10 p.data.toList < 10000 := by
            refine Nat.lt_of_lt_of_le hgl ?_
            have : p.data.toList.length ≤ 4 := by simpa using hps4
            exact Nat.pow_le_pow_right (n := 10) (by decide) this
          have HN := Lib.hid (show In.nv 10000 (ds ++ [In.val10 p.data.toList]) + 10000 ^ (ds.length + 1) * In.val10 (l.take (e - 4)) = In.val10 l from by
            rw [HP.out]
            exact In.read_next rfl (by rw [HLL.out]; omega) (by omega) HK.out.2.1)
          have hn := fun ty => run_next_end (P := Tryz.prog) wr p p.size ty (Nat.lt_irrefl _)
          have hrow2 : (wr.iter p p.size).ownsRow w.heap.size 3 1 u3 ds.length (ds.map natV) := hrow.alloc _
          have hob := Lib.hid (own_block hrow)
          clear hgl hrow
          generalize In.val10 p.data.toList = g at *
          go_wp2_with (at_builtin; refine wpList_append_nats rfl _ _ 45 Tryz.underlying45 rfl rfl w.heap.size u3 ds.length ds rfl (hrow2.alloc _) (some ⟨(wr.iter p p.size).heap.size, 0, none⟩) 1 1 [g] rfl rfl (fun h => by cases h) (row_sl (Row.new _ 3 [natV g])) (by omega) (by simp [World.iter]; omega) ?_; intro v' w1 hown' hgrow; have K := Lib.hid (And.intro hown' hgrow); clear hown' hgrow hrow2)
          go_roundw
          case rel =>
            obtain ⟨k1, k2⟩ := K.out
            refine ⟨(e : Int) - 4, ds ++ [g], by go_num, by omega, by omega, by rw [List.length_append]; exact k1, by rw [List.length_append]; simp; omega, lt_snoc HK.out.1 hg4, ?_, ?_⟩
            · rw [List.length_append, show ((e : Int) - 4).toNat = e - 4 by omega]
              exact HN.out
            · exact ((HK.out.2.2.alloc hr (.stringIter p p.size)).alloc (by simp; omega) _).grown k2 (by simp [World.iter]; omega) hob.out
          case measure => simp [intOf]; omega
    · obtain ⟨o, c, rfl, h1, h2, h3, h4⟩ := own_nats hrow
      unfold maxLen at h2
      have hv : In.nv 10000 ds = In.val10 l := by
        rw [show z.toNat = 0 by omega, List.take_zero] at hval
        simpa [In.val10] using hval
      have CT := Lib.hid (trim_any o ds.length c ds wr rfl hlt h1 (by omega) h3 h4)
      rw [hv] at CT
      have HB := Lib.hid hB
      clear hlt hval hB hrow h1 h2 h3 h4 hv
      generalize ds.length = n at *
      go_wp2_with fail
      with_reducible refine Calls.mono CT.out ?_
      rintro e w3 ⟨r, rfl, hn, hb⟩
      have HF := Lib.hid (And.intro hn (Below.andThen HB.out hb))
      clear hn hb
      go_wp2_with fail
      go_ret
      exact ⟨_, rfl, HF.out⟩
end Go.Proofs.YtjhnfejlkljkjaaGreatDoor
