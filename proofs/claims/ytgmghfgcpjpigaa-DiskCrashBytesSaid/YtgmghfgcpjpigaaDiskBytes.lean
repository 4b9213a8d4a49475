/- For every input, DiskCrashBytes returns true and leaves its arguments as they were. -/
import Derived.Test.YtgmghfgcpjpigaaDiskFrame
import Derived.Laws.AppendOwnNone
namespace Go.Proofs.Ytgmghfgcpjpigaa
open Go.RowKit Go.ChangeShapes Go.WideShapes Go.ChangeAt

theorem wpList_append_src {P : Program} {w : World} {ops : Array Oper} {rest : List Oper} {o : Oper} {a : Act} {Q : Exit → Act → World → Prop} (hgd : o.guard = none) (s x : Operand) (t : TypeId)
    (ho : o.op = .call { callee := .builtin .append, args := #[s, x], argTypes := #[t, t] })
    (base : Nat) (e : TypeId) (i : TypeInfo) (z : Value) (bytes : Nat) (ht : P.underlying t = some (.slice e)) (hi : P.info? e = some i) (hz : i.zero = some z)
    (hsize : i.size = 1) (hby : i.bytes = bytes) (hzs : z.cells.size = 1)
    (v : Value) (n : Nat) (xs : List Value) (hs : a.eval s = v) (hown : w.ownsRow base e 1 v n xs)
    (b2 : Nat) (u : Value) (m : Nat) (news : List Value) (hx : a.eval x = u) (hsrc : w.ownsRow b2 e 1 u m news) (h1 : ∀ u ∈ news, u.oneCell' = true)
    (h63 : n + m ≤ maxLen) (hbytes : (n + m) * bytes ≤ 140737488355328) (hbase : base ≤ w.heap.size)
    (h : ∀ v' w', w'.ownsRow base e 1 v' (n + m) (xs ++ news) → w.grownBy w' v.ownBlock → (v'.ownBlock = v.ownBlock ∨ v'.ownBlock = some w.heap.size) → wpList P ops Q rest (a.put o.dst v') w') :
    wpList P ops Q (o :: rest) a w := by
  rcases hsrc.2 with ⟨rfl, rfl⟩ | ⟨g, cap, cur, rfl, _⟩
  · obtain rfl : news = [] := List.eq_nil_of_length_eq_zero (by simpa using hsrc.1)
    exact wpList_append_own_none hgd s x t ho base e i 1 ht hi v n xs hs hown hx (h v w (by simpa using hown) ⟨rfl, rfl, rfl, Nat.le_refl _, fun _ _ _ => rfl⟩ (.inl rfl))
  · exact wpList_append_own_at w hgd s x t ho base e i z 1 bytes ht hi hz hsize hby hzs (by decide) v n xs hs hown ⟨g, 0, none⟩ m cap news hx hsrc.1 (hsrc.cells (g := g) rfl) h1 h63 hbytes hbase
      (fun v' w' h1 h2 _ h3 => h v' w' h1 h2 h3)
theorem over_whole (L cs : List UInt8) (h : cs.length = L.length) : over L 0 cs = cs := by
  have e : L.drop (0 + cs.length) = [] := List.drop_eq_nil_of_le (by omega)
  unfold over splice
  rw [e]
  simp
set_option maxHeartbeats 400000 in
theorem cut_int (s : ByteArray) (n : Int) (w : World) (hs : s.size ≤ maxLen) (h0 : 0 ≤ n) (hn : n ≤ 9223372036854775807) :
    Calls Try.prog 22 #[.string s, .int .i64 n] w fun e w' => e = .returned (.string (s.extract 0 (min (s.size : Int) n).toNat)) ∧ w = w' := by
  unfold maxLen at hs
  go_enter Try.func22, Try.ntmps22
  go_wp2
  all_goals
    go_ret
    exact ⟨rfl, rfl⟩
theorem cut_list (x : ByteArray) (torn : Int) (h : 0 ≤ torn) : (x.extract 0 (min (x.size : Int) torn).toNat).data.toList = x.data.toList.take torn.toNat := by
  have e1 : (x.extract 0 (min (x.size : Int) torn).toNat).data.toList = x.data.toList.take (min (x.size : Int) torn).toNat := by simp [ByteArray.data_extract]
  rw [e1]
  by_cases hq : torn ≤ x.size
  · rw [show min (x.size : Int) torn = torn by omega]
  · rw [show min (x.size : Int) torn = x.size by omega, Int.toNat_natCast, List.take_of_length_le (by rw [size_list]; omega), List.take_of_length_le (by rw [size_list]; omega)]
theorem nums_cons (kp : Nat → Bool) (k : Nat) (h : kp k = true) : numsF kp (k + 1) = (k : Int) :: numsF kp k := by simp [numsF, h]
theorem nums_skip (kp : Nat → Bool) (k : Nat) (h : kp k = false) : numsF kp (k + 1) = numsF kp k := by simp [numsF, h]
theorem nums_le (kp : Nat → Bool) : ∀ k, (numsF kp k).length ≤ k
  | 0 => Nat.le_refl _
  | k + 1 => by
    have := nums_le kp k
    unfold numsF
    split
    · simp; omega
    · omega
theorem lastF_bd (kp : Nat → Bool) : ∀ k, -1 ≤ lastF kp k ∧ lastF kp k < k
  | 0 => by simp [lastF]
  | k + 1 => by
    have := lastF_bd kp k
    unfold lastF
    split
    · omega
    · omega

set_option maxRecDepth 100000 in
set_option maxHeartbeats 4000000 in
theorem crashBytes_any (z : Int) (o : Option Addr) (len cap : Nat) (L : Nat → Int × ByteArray × Bool) (o2 : Option Addr) (klen kcap : Nat) (Kp : Nat → Bool) (tn : Int) (w : World) (bz : -9223372036854775808 ≤ z ∧ z ≤ 9223372036854775807) (b0 : len ≤ maxLen)
    (b1 : ∀ i, i < len → -9223372036854775808 ≤ (L i).1 ∧ (L i).1 ≤ 9223372036854775807 ∧ (L i).2.1.size ≤ maxLen)
    (b2 : ∀ i, i < len → ∃ a, o = some a ∧ ∀ w', Below w.heap.size w w' → w'.cell? (a.add (i * 3)) = some (.int .i64 (L i).1) ∧ w'.cell? ⟨(a.add (i * 3)).block, (a.add (i * 3)).off + 1, none⟩ = some (.string (L i).2.1) ∧ w'.cell? ⟨(a.add (i * 3)).block, (a.add (i * 3)).off + 2, none⟩ = some (.bool (L i).2.2))
    (_ : klen ≤ maxLen) (b4 : ∀ i, i < klen → ∃ a, o2 = some a ∧ ∀ w', Below w.heap.size w w' → w'.cell? (a.add i) = some (.bool (Kp i))) (bt : -9223372036854775808 ≤ tn ∧ tn ≤ 9223372036854775807) :
    Calls Try.prog 8 #[.int .i64 z, .slice o len cap, .slice o2 klen kcap, .int .i64 tn] w fun r w' => r = .returned (.bool true) ∧ Below w.heap.size w w' := by
  unfold maxLen at b0
  have HB4 := Lib.hid b4
  clear b4
  have HB1 := Lib.hid b1
  have HB2 := Lib.hid b2
  have pb := pick_bd z 100 (by omega)
  obtain ⟨n, en⟩ : ∃ n : Nat, (n : Int) = 1 + pickZ z 100 := ⟨(1 + pickZ z 100).toNat, by omega⟩
  have CP := Lib.hid (fun w => pick_any z 100 w (by omega) bz.1 bz.2)
  have n1 : 1 ≤ n := by omega
  have n2 : n ≤ 100 := by omega
  have EN := Lib.hid en
  obtain ⟨pb1, pb2⟩ := pb
  clear b1 b2 en
  go_enter Try.func8, Try.ntmps8
  go_wp2_with fail
  refine (sane_any _).mono ?_
  rintro e w1 ⟨rfl, hb⟩
  have HB := Lib.hid hb
  clear hb
  go_upto_region 2 with (fail)
  go_cut [0] (fun v wx => v = .int .i64 n ∧ wx = w1)
  case first =>
    go_wp2_with fail
    refine (CP.out _).mono ?_
    rintro e w2 ⟨rfl, rfl⟩
    go_wp2_with fail
    go_meet
    exact ⟨congrArg (Value.int .i64) EN.out.symm, rfl⟩
  obtain ⟨rfl, rfl⟩ := hcut
  rename World => w1
  clear pb1 pb2
  go_wp2_with fail
  refine (new_any n w1 n1 (by omega)).mono ?_
  rintro e w2 ⟨D, F, rfl, hb, hD, hF⟩
  have O := Lib.hid (On.new HB.out hb hD hF)
  clear hb hD hF
  clear HB
  obtain ⟨i0, hi, hz0, hz1, hz2⟩ := info_parts infoByte
  have hmk := run_make_row (P := Try.prog) w2 40 5 i0 _ 1 Try.underlying40 hi hz0 hz1 hz2 rfl n (by omega) (by omega)
  have R0 := Row.newA w2 5 n (.int .u8 0)
  have e0 : (List.replicate n (0 : UInt8)).map byteV = List.replicate n (.int .u8 0) := by rw [List.map_replicate]; rfl
  rw [← e0] at R0
  have hbl := Lib.hid (show Below w2.heap.size w2 (w2.alloc (.cells (Array.replicate n (.int .u8 0)) 5)) from (Below.refl _ _).alloc (Nat.le_refl _) _)
  have K0 := Lib.hid (And.intro (O.out.next hbl.out) (And.intro R0 (show ¬ F w2.heap.size from fun h => absurd (O.out.disk.lt _ h) (Nat.lt_irrefl _))))
  clear R0 hbl
  go_wp2_with fail
  clear hmk
  obtain ⟨b, eb⟩ : ∃ b, b = w2.heap.size := ⟨_, rfl⟩
  have HBW := Lib.hid (show w.heap.size ≤ b by rw [eb]; exact O.out.below.size)
  rw [← eb] at K0 ⊢
  clear e0 O eb
  go_loopw [13] (fun i wr => ∃ (k : Nat) (X : List UInt8), k ≤ n ∧ i = .int .i64 k ∧ X.length = n ∧ Row wr b 5 (X.map byteV) ∧ On w wr F D n (DS.fresh n) ∧ ¬ F b) (fun i _ => n - (intOf i).toNat)
  case atStart => exact ⟨0, _, Nat.zero_le _, rfl, by simp, K0.out.2.1, K0.out.1, K0.out.2.2⟩
  case round =>
    clear K0
    obtain ⟨k, X, hk, rfl, hX, hR, hO, hFb⟩ := hrel
    by_cases hlt : k < n
    · have hc : wr.cell? ⟨b, k, none⟩ = some (byteV (X[k]'(by omega))) := by rw [hR.cell, List.getElem?_map, List.getElem?_eq_getElem (by omega)]; rfl
      have hf := hR.frozen k
      obtain ⟨x, ex⟩ : ∃ x : UInt8, (x.toNat : Int) = 48 + (k : Int) % 10 := ⟨UInt8.ofNat (48 + k % 10), by rw [UInt8.toNat_ofNat']; omega⟩
      have K := Lib.hid (And.intro hR (And.intro hO (And.intro hFb ex)))
      have q1 : (0 : Int) ≤ (k : Int) % 10 ∧ (k : Int) % 10 < 10 := by omega
      obtain ⟨q2, q3⟩ := q1
      clear hR hO hFb ex
      go_wp2_with fail
      go_roundw
      case rel =>
        obtain ⟨hR, hO, hFb, ex⟩ := K.out
        have hOn : Only (fun j => j = b) wr (wr.setCell ⟨b, k, none⟩ (byteV x)) := by
          refine Only.setCell (Only.refl _ _) ?_ _
          exact .inl rfl
        have hRn := hR.set k (byteV x)
        rw [← List.map_set] at hRn
        rw [← ex]
        exact ⟨k + 1, X.set k x, by omega, by go_num, by simpa using hX, hRn, hO.only hOn (fun j hj => by subst hj; exact hFb) (fun j hj => by subst hj; exact HBW.out), hFb⟩
      case measure => simp [intOf]; omega
    · obtain rfl : n = k := by omega
      have O := Lib.hid hO
      have R := Lib.hid hR
      have HFb := Lib.hid hFb
      have hx := Row.textAll (P := Try.prog) hR hX 40 9 5 n rfl rfl rfl
      have sz : (⟨X.toArray⟩ : ByteArray).size = n := by show X.toArray.size = n; simpa using hX
      have HX := Lib.hid (And.intro hX sz)
      have HW := Lib.hid (show DS.writeE (DS.fresh n) 0 ⟨X.toArray⟩ = 0 ∧ _ from write_plain (o := 0) (t := ⟨X.toArray⟩) hO.disk.good.1 rfl rfl (by omega))
      have HWS := Lib.hid (show DS.syncS (DS.writeS (DS.fresh n) 0 ⟨X.toArray⟩) = ⟨X, X, [], false, 0⟩ ∧ DS.powE (DS.writeS (DS.fresh n) 0 ⟨X.toArray⟩) = 0 by
        have e1 : over (DS.fresh n).vis 0 X = X := over_whole _ _ (by rw [hX]; simp [DS.fresh])
        rw [show DS.writeS (DS.fresh n) 0 ⟨X.toArray⟩ = _ from HW.out.2]
        constructor
        · simp only [DS.syncS, DS.fresh, Bool.false_eq_true, if_false]
          have e3 : over (List.replicate n 0) 0 X = X := e1
          rw [e3]
        · simp [DS.powE, DS.fresh])
      clear hO hR hFb hlt hk hX
      go_wp2_with fail
      refine (write_any D n _ _ 0 ⟨X.toArray⟩ _ O.out.disk (by omega) (by rw [sz]; unfold maxLen; omega) (by simp [DS.fresh])).mono ?_
      rintro e w3 ⟨rfl, hS⟩
      obtain ⟨F3, O3, hO, hF⟩ := On.step O.out hS
      have O3 := Lib.hid O3
      have R3 := Lib.hid (hO.row R.out HFb.out)
      have P3 := Lib.hid (still hF R.out.lt HFb.out)
      rw [HW.out.1]
      clear hS hO hF O R HFb hx
      go_wp2_with fail
      refine (sync_any D n _ _ _ O3.out.disk).mono ?_
      rintro e w4 ⟨rfl, hS⟩
      rw [HWS.out.1] at hS
      obtain ⟨F4, O4, hO, hF⟩ := On.step O3.out hS
      have O4 := Lib.hid O4
      have R4 := Lib.hid (hO.row R3.out P3.out)
      have P4 := Lib.hid (still hF R3.out.lt P3.out)
      rw [HWS.out.2]
      clear hS hO hF O3 R3 P3 HW HWS
      go_wp2_with fail
      obtain ⟨kp, ekp⟩ : ∃ kp : Nat → Bool, ∀ i, kp i = (decide (i < klen) && Kp i) := ⟨_, fun _ => rfl⟩
      have EK := Lib.hid ekp
      obtain ⟨m, hm1, hm2, hm3⟩ : ∃ m : Nat, m ≤ len ∧ m ≤ 20 ∧ (m = len ∨ m = 20) := ⟨min len 20, by omega, by omega, by omega⟩
      clear ekp
      go_loopw [14, 15] (fun l i wr => ∃ j : Nat, j ≤ m ∧ i = .int .i64 j ∧ l = .int .i64 (lastF kp j) ∧ wr = w4) (fun _ i _ => m - (intOf i).toNat)
      case atStart => exact ⟨0, Nat.zero_le _, rfl, rfl, rfl⟩
      case round =>
        obtain ⟨j, hj, rfl, rfl, rfl⟩ := hrel
        by_cases hlt : j < m
        · have g1 : j < len := by omega
          have g2 : j < 20 := by omega
          by_cases hkl : j < klen
          · obtain ⟨ak, rfl, hck⟩ := HB4.out j hkl
            have ck := hck _ O4.out.below
            clear hck
            have ekj := EK.out j
            cases hkv : Kp j
            · rw [hkv] at ck ekj
              have EJ := Lib.hid (show lastF kp (j + 1) = lastF kp j by simp [lastF, ekj])
              clear ekj hkv
              go_wp2_with fail
              go_roundw
              case rel => exact ⟨j + 1, by omega, by go_num, by rw [EJ.out], trivial⟩
              case measure => simp [intOf]; omega
            · rw [hkv] at ck ekj
              have EJ := Lib.hid (show lastF kp (j + 1) = (j : Int) by simp [lastF, ekj, hkl])
              clear ekj hkv
              go_wp2_with fail
              go_roundw
              case rel => exact ⟨j + 1, by omega, by go_num, by rw [EJ.out], trivial⟩
              case measure => simp [intOf]; omega
          · have EJ := Lib.hid (show lastF kp (j + 1) = lastF kp j by simp [lastF, EK.out j, hkl])
            go_wp2_with fail
            go_roundw
            case rel => exact ⟨j + 1, by omega, by go_num, by rw [EJ.out], trivial⟩
            case measure => simp [intOf]; omega
        · obtain rfl : j = m := by omega
          obtain ⟨lst, el⟩ : ∃ lst, lst = lastF kp j := ⟨_, rfl⟩
          rw [← el]
          have lb := lastF_bd kp j
          rw [← el] at lb
          obtain ⟨lb1, lb2⟩ := lb
          have EL := Lib.hid el
          have hex : ¬ (j : Int) < len ∨ ((j : Int) < len ∧ ¬ (j : Int) < 20) := by omega
          clear el hlt hj hm3
          rcases hex with g1 | ⟨g1, g2⟩
          all_goals
            go_wp2_with fail
            obtain ⟨i1, hi1, hy0, hy1, hy2⟩ := info_parts infoInt
            go_loopw [16, 17] (fun v i wr => ∃ (k : Nat) (F : Nat → Prop) (s : DS), k ≤ j ∧ i = .int .i64 k ∧ On w wr F D n s ∧ ¬ F b ∧ s.off = false ∧ s.after = 0 ∧ s.sure = X ∧ s.pend.length = k ∧ wr.ownsRow w.heap.size 3 1 v (numsF kp k).length (intC (numsF kp k)) ∧ Row wr b 5 ((crashK s.pend kp lst tn k X).map byteV)) (fun _ i _ => j - (intOf i).toNat)
            case atStart => exact ⟨0, F4, _, Nat.zero_le _, rfl, O4.out, P4.out, rfl, rfl, rfl, rfl, World.ownsRow_nil _ _ _ _, R4.out⟩
            case round =>
              clear R4 P4
              obtain ⟨k, F, s, hk, rfl, hO, hFb, ho, ha, hsu, hp, hown, hR⟩ := hrel
              have O := Lib.hid hO
              have R := Lib.hid hR
              have W := Lib.hid hown
              have P := Lib.hid (And.intro hFb (And.intro ho (And.intro ha (And.intro hsu hp))))
              clear hO hR hFb ho ha hp hown hsu
              by_cases hlt : k < j
              · have hl : k < len := by omega
                have h20 : k < 20 := by omega
                obtain ⟨ad, rfl, hc⟩ := HB2.out k hl
                obtain ⟨x0, x1, x2⟩ := HB1.out k hl
                obtain ⟨c0, c1, c2⟩ := hc wr O.out.below
                obtain ⟨⟨z0, s0, y0⟩, eL⟩ : ∃ q, q = L k := ⟨_, rfl⟩
                rw [← eL] at x0 x1 x2 c0 c1 c2
                clear hc eL
                dsimp only at x0 x1 x2 c0 c1 c2
                go_wp2_with fail
                refine (fits_any z0 s0 y0 n wr ⟨x0, x1⟩ x2 (by omega)).mono ?_
                rintro e w3 ⟨rfl, hb⟩
                have O3 := Lib.hid (O.out.next hb)
                have HF := Lib.hid (fit_ok z0 s0 n)
                have hq := fitO_le z0 n
                generalize fitO z0 n = q at *
                generalize fitS z0 s0 n = t at *
                have tq : t.size ≤ 100 := by have := HF.out; omega
                have R3 := Lib.hid (R.out.next hb)
                have W3 := Lib.hid (own_next W.out hb)
                clear hb c0 c1 c2 x0 x1 x2 O R W
                have RW := Lib.hid (Row.new w3 53 [.int .i64 q, .string t, .bool y0])
                have O4 := Lib.hid (O3.out.next (show Below w3.heap.size w3 (w3.alloc (.cells #[.int .i64 q, .string t, .bool y0] 53)) from (Below.refl _ _).alloc (Nat.le_refl _) _))
                have HL := Lib.hid (fun h => Nat.lt_irrefl _ (O3.out.disk.lt w3.heap.size h))
                have R4 := Lib.hid (R3.out.alloc (.cells #[.int .i64 q, .string t, .bool y0] 53))
                have W4 := Lib.hid (W3.out.alloc (.cells #[.int .i64 q, .string t, .bool y0] 53))
                have lb := R3.out.lt
                have HW := Lib.hid (write_plain O4.out.disk.good.1 P.out.2.1 P.out.2.2.1 HF.out)
                go_wp2_with fail
                refine (write_any D n _ _ q t _ O4.out.disk (by omega) (by unfold maxLen; omega) (by have := P.out.2.2.2.2; omega)).mono ?_
                rintro e w6 ⟨rfl, hS⟩
                rw [HW.out.2] at hS
                obtain ⟨F6, O6, hO, hF⟩ := On.step O4.out hS
                have O6 := Lib.hid O6
                have R6 := Lib.hid (hO.row R4.out P.out.1)
                have W6 := Lib.hid (own_only W4.out hO (own_not W4.out O4.out.disk))
                obtain ⟨lw, el⟩ : ∃ lw, lw = w3.heap.size := ⟨_, rfl⟩
                rw [← el] at RW HL lb ⊢
                have RW6 := Lib.hid (hO.row RW.out HL.out)
                have P6 := Lib.hid (And.intro (still hF R4.out.lt P.out.1) (And.intro P.out.2.1 (And.intro P.out.2.2.1 (And.intro P.out.2.2.2.1 (show (s.pend ++ [(q, t)]).length = k + 1 by have := P.out.2.2.2.2; simp; omega)))))
                have EF := Lib.hid (show crashK (s.pend ++ [(q, t)]) kp lst tn (k + 1) X = if kp k then over (crashK s.pend kp lst tn k X) q (tornL k lst tn t.data.toList) else crashK s.pend kp lst tn k X by
                  have hp := P.out.2.2.2.2
                  have e1 : (s.pend ++ [(q, t)])[k]? = some (q, t) := by rw [← hp]; exact List.getElem?_concat_length
                  rw [crashK, e1, crashK_front _ _ (by omega)])
                have HV := Lib.hid (show (crashK s.pend kp lst tn k X).length = n by rw [← P.out.2.2.2.1]; exact crashK_length O4.out.disk.good.1.sure O4.out.disk.good.1.pend k)
                have HSZ := Lib.hid O6.out.below.size
                rw [HW.out.1]
                clear hS hO hF R4 W4 R3 W3 O3 RW el HL O4 HW P
                have ekj := EK.out k
                have hnot := Lib.hid (fun (h : kp k = false) => show crashK (s.pend ++ [(q, t)]) kp lst tn (k + 1) X = crashK s.pend kp lst tn k X by rw [EF.out, h]; rfl)
                by_cases hkl : k < klen
                · obtain ⟨ak, rfl, hck⟩ := HB4.out k hkl
                  have ck := hck _ O6.out.below
                  clear hck
                  cases hkv : Kp k
                  · rw [hkv] at ck ekj
                    have hkp : kp k = false := by rw [ekj]; simp
                    have EN' := Lib.hid (nums_skip kp k hkp)
                    have EC := Lib.hid (hnot.out hkp)
                    clear ekj hkv hkp
                    go_wp2_with fail
                    go_roundw
                    case rel =>
                      refine ⟨k + 1, F6, _, by omega, by go_num, O6.out, P6.out.1, P6.out.2.1, P6.out.2.2.1, P6.out.2.2.2.1, P6.out.2.2.2.2, ?_, ?_⟩
                      · rw [EN'.out]; exact W6.out
                      · rw [EC.out]; exact R6.out
                    case measure => simp [intOf]; omega
                  · rw [hkv] at ck ekj
                    have hkp : kp k = true := by rw [ekj]; simp [hkl]
                    have EN' := Lib.hid (nums_cons kp k hkp)
                    have EC := Lib.hid (show crashK (s.pend ++ [(q, t)]) kp lst tn (k + 1) X = over (crashK s.pend kp lst tn k X) q (tornL k lst tn t.data.toList) by rw [EF.out, hkp]; rfl)
                    clear ekj hkv hkp
                    have nl := nums_le kp k
                    have hsrc := W6.out.alloc (.cells #[.int .i64 k] 3)
                    have hlit := World.ownsRow_lit (base := w.heap.size) (e := 3) (size := 1) w6 #[.int .i64 k] 1 HSZ.out (by decide) rfl
                    have MM := Lib.hid (fun (w7 : World) (hg : (w6.alloc (.cells #[.int .i64 k] 3)).grownBy w7 (some w6.heap.size)) => show Below w6.heap.size w6 w7 from ((Below.refl _ w6).alloc (Nat.le_refl _) _).grown hg (by simp) (fun j hj => by cases hj; exact Nat.le_refl _))
                    have c1 := RW6.out.cell 1
                    simp only [List.getElem?_cons_succ, List.getElem?_cons_zero] at c1
                    have sz6 := HSZ.out
                    have tsz : t.size ≤ 9223372036854775807 := by omega
                    by_cases hto : (k : Int) = lst ∧ 0 ≤ tn
                    · obtain ⟨hl1, hl2⟩ := hto
                      have ET := Lib.hid (show over (crashK s.pend kp lst tn k X) q (tornL k lst tn t.data.toList) = over (crashK s.pend kp lst tn k X) q (t.extract 0 (min (t.size : Int) tn).toNat).data.toList by
                        rw [cut_list t tn hl2, tornL, if_pos ⟨hl1, hl2⟩])
                      subst hl1
                      go_wp2_with (at_builtin; refine wpList_append_src rfl _ _ 37 rfl w.heap.size 3 i1 _ 8 Try.underlying37 hi1 hy0 hy1 hy2 rfl (.slice (some ⟨w6.heap.size, 0, none⟩) 1 1) 1 [.int .i64 k] rfl hlit w.heap.size _ (numsF kp k).length (intC (numsF kp k)) rfl hsrc (fun u hu => by obtain ⟨x, _, rfl⟩ := List.mem_map.1 hu; rfl) (by unfold maxLen; omega) (by omega) (by simp; omega) ?_; intro v' w7 hown' hgrow hat; have hb7 := MM.out w7 hgrow; have O7 := Lib.hid (O6.out.next hb7); have R7 := Lib.hid (R6.out.next hb7); have RW7 := Lib.hid (RW6.out.next hb7); have W7 := Lib.hid hown'; have c0' := RW7.out.cell 0; have c1' := RW7.out.cell 1; simp only [List.getElem?_cons_succ, List.getElem?_cons_zero] at c0' c1'; clear hown' hgrow hat hb7)
                      refine (cut_int t tn _ (by unfold maxLen; omega) hl2 bt.2).mono ?_
                      rintro e w8 ⟨rfl, rfl⟩
                      go_wp2_with fail
                      refine (put_any b n q _ (t.extract 0 (min (t.size : Int) tn).toNat) _ R7.out HV.out (by omega) (by first | exact HF.out | (have := HF.out; rw [ByteArray.size_extract]; omega))).mono ?_
                      rintro e w9 ⟨rfl, hO, hR⟩
                      have O9 := Lib.hid (O7.out.only hO (fun j hj => by subst hj; exact P6.out.1) (fun j hj => by subst hj; exact HBW.out))
                      have W9 := Lib.hid (own_only W7.out hO (fun j hj => by rintro rfl; exact own_ne W7.out R7.out (by decide) hj))
                      have R9 := Lib.hid hR
                      clear hO hR
                      go_wp2_with fail
                      go_roundw
                      case rel =>
                        refine ⟨k + 1, F6, _, by omega, by go_num, O9.out, P6.out.1, P6.out.2.1, P6.out.2.2.1, P6.out.2.2.2.1, P6.out.2.2.2.2, ?_, ?_⟩
                        · have := W9.out
                          rw [EN'.out, List.length_cons, Nat.add_comm]
                          exact this
                        · rw [EC.out, ET.out]; exact R9.out
                      case measure => simp [intOf]; omega
                    · have ET := Lib.hid (show over (crashK s.pend kp lst tn k X) q (tornL k lst tn t.data.toList) = over (crashK s.pend kp lst tn k X) q t.data.toList by
                        rw [tornL, if_neg hto])
                      have hto' : ¬ (k : Int) = lst ∨ (k : Int) = lst ∧ tn < 0 := by omega
                      clear hto
                      rcases hto' with hto | ⟨hto, hto2⟩
                      · skip
                        go_wp2_with (at_builtin; refine wpList_append_src rfl _ _ 37 rfl w.heap.size 3 i1 _ 8 Try.underlying37 hi1 hy0 hy1 hy2 rfl (.slice (some ⟨w6.heap.size, 0, none⟩) 1 1) 1 [.int .i64 k] rfl hlit w.heap.size _ (numsF kp k).length (intC (numsF kp k)) rfl hsrc (fun u hu => by obtain ⟨x, _, rfl⟩ := List.mem_map.1 hu; rfl) (by unfold maxLen; omega) (by omega) (by simp; omega) ?_; intro v' w7 hown' hgrow hat; have hb7 := MM.out w7 hgrow; have O7 := Lib.hid (O6.out.next hb7); have R7 := Lib.hid (R6.out.next hb7); have RW7 := Lib.hid (RW6.out.next hb7); have W7 := Lib.hid hown'; have c0' := RW7.out.cell 0; have c1' := RW7.out.cell 1; simp only [List.getElem?_cons_succ, List.getElem?_cons_zero] at c0' c1'; clear hown' hgrow hat hb7)
                        refine (put_any b n q _ t _ R7.out HV.out (by omega) (by first | exact HF.out | (have := HF.out; rw [ByteArray.size_extract]; omega))).mono ?_
                        rintro e w9 ⟨rfl, hO, hR⟩
                        have O9 := Lib.hid (O7.out.only hO (fun j hj => by subst hj; exact P6.out.1) (fun j hj => by subst hj; exact HBW.out))
                        have W9 := Lib.hid (own_only W7.out hO (fun j hj => by rintro rfl; exact own_ne W7.out R7.out (by decide) hj))
                        have R9 := Lib.hid hR
                        clear hO hR
                        go_wp2_with fail
                        go_roundw
                        case rel =>
                          refine ⟨k + 1, F6, _, by omega, by go_num, O9.out, P6.out.1, P6.out.2.1, P6.out.2.2.1, P6.out.2.2.2.1, P6.out.2.2.2.2, ?_, ?_⟩
                          · have := W9.out
                            rw [EN'.out, List.length_cons, Nat.add_comm]
                            exact this
                          · rw [EC.out, ET.out]; exact R9.out
                        case measure => simp [intOf]; omega
                      · subst hto
                        go_wp2_with (at_builtin; refine wpList_append_src rfl _ _ 37 rfl w.heap.size 3 i1 _ 8 Try.underlying37 hi1 hy0 hy1 hy2 rfl (.slice (some ⟨w6.heap.size, 0, none⟩) 1 1) 1 [.int .i64 k] rfl hlit w.heap.size _ (numsF kp k).length (intC (numsF kp k)) rfl hsrc (fun u hu => by obtain ⟨x, _, rfl⟩ := List.mem_map.1 hu; rfl) (by unfold maxLen; omega) (by omega) (by simp; omega) ?_; intro v' w7 hown' hgrow hat; have hb7 := MM.out w7 hgrow; have O7 := Lib.hid (O6.out.next hb7); have R7 := Lib.hid (R6.out.next hb7); have RW7 := Lib.hid (RW6.out.next hb7); have W7 := Lib.hid hown'; have c0' := RW7.out.cell 0; have c1' := RW7.out.cell 1; simp only [List.getElem?_cons_succ, List.getElem?_cons_zero] at c0' c1'; clear hown' hgrow hat hb7)
                        refine (put_any b n q _ t _ R7.out HV.out (by omega) (by first | exact HF.out | (have := HF.out; rw [ByteArray.size_extract]; omega))).mono ?_
                        rintro e w9 ⟨rfl, hO, hR⟩
                        have O9 := Lib.hid (O7.out.only hO (fun j hj => by subst hj; exact P6.out.1) (fun j hj => by subst hj; exact HBW.out))
                        have W9 := Lib.hid (own_only W7.out hO (fun j hj => by rintro rfl; exact own_ne W7.out R7.out (by decide) hj))
                        have R9 := Lib.hid hR
                        clear hO hR
                        go_wp2_with fail
                        go_roundw
                        case rel =>
                          refine ⟨k + 1, F6, _, by omega, by go_num, O9.out, P6.out.1, P6.out.2.1, P6.out.2.2.1, P6.out.2.2.2.1, P6.out.2.2.2.2, ?_, ?_⟩
                          · have := W9.out
                            rw [EN'.out, List.length_cons, Nat.add_comm]
                            exact this
                          · rw [EC.out, ET.out]; exact R9.out
                        case measure => simp [intOf]; omega
                · have hkp : kp k = false := by rw [ekj]; simp [hkl]
                  have EN' := Lib.hid (nums_skip kp k hkp)
                  have EC := Lib.hid (hnot.out hkp)
                  clear ekj hkp
                  go_wp2_with fail
                  go_roundw
                  case rel =>
                    refine ⟨k + 1, F6, _, by omega, by go_num, O6.out, P6.out.1, P6.out.2.1, P6.out.2.2.1, P6.out.2.2.2.1, P6.out.2.2.2.2, ?_, ?_⟩
                    · rw [EN'.out]; exact W6.out
                    · rw [EC.out]; exact R6.out
                  case measure => simp [intOf]; omega
              · obtain rfl : k = j := by omega
                obtain ⟨hlk, ko, kc, rfl, hk9⟩ := keep_own W.out
                have HK := Lib.hid hk9
                clear hk9
                have HC := Lib.hid (show (s.crashS (numsF kp k) tn).vis = crashK s.pend kp lst tn k X by
                  have hp := P.out.2.2.2.2
                  have h1 := crashL_nums s kp tn
                  rw [hp, P.out.2.2.2.1, ← EL.out] at h1
                  exact h1)
                have HV := Lib.hid (show (crashK s.pend kp lst tn k X).length = n by rw [← P.out.2.2.2.1]; exact crashK_length O.out.disk.good.1.sure O.out.disk.good.1.pend k)
                have nl := nums_le kp k
                go_wp2_with fail
                refine (crash_at D n _ s ko (numsF kp k) (numsF kp k).length kc tn _ rfl O.out.disk (by have := P.out.2.2.2.2; omega) (by omega) (fun i hi => by
                  obtain ⟨a, e, hc, hb⟩ := HK.out i hi
                  exact ⟨a, e, hc, by subst e; exact own_not W.out O.out.disk _ rfl⟩) bt).mono ?_
                rintro e w11 ⟨rfl, hS⟩
                obtain ⟨F11, O11, hO, hF⟩ := On.step O.out hS
                have O11 := Lib.hid O11
                have R11 := Lib.hid (hO.row R.out P.out.1)
                clear hS hO hF O W R HK
                have t11 := Lib.hid (read_plain O11.out.disk.good.1 rfl)
                go_wp2_with fail
                refine (read_any D n _ _ 0 n _ O11.out.disk (by omega) (by omega)).mono ?_
                rintro e w12 ⟨rfl, rfl⟩
                rw [t11.out.1, t11.out.2, HC.out]
                have hx := Row.textAll (P := Try.prog) R11.out HV.out 40 9 5 n rfl rfl rfl
                go_wp2
                go_ret
                exact ⟨rfl, O11.out.below⟩
namespace diskCrashBytes
set_option maxRecDepth 100000 in
theorem contract (H : Type) (enc : TypeId × Value → H) (W : World) (base : Nat) (args : Array Value) (ds gs : List (DataW H)) (before : List MemPlace)
    (hval : ∀ (j : Nat) t v, Try.f8.params[j]? = some t → args[j]? = some v → Value.okWide Try.prog W .any base t v)
    (hW : DataW.Whole enc Try.prog Try.f8.params.toList Rows.diskCrashBytesSpec.vars false W args.toList ds gs before) (_hL : laidMetH Try.prog Rows.diskCrashBytesRow.laid W) :
    Calls Try.prog 8 args W fun e W' => ∃ v, e = .returned v ∧ Rows.diskCrashBytesSpec.post enc Try.prog Try.f8 false true false false W args v W' := by
  have hW' := hW
  obtain ⟨p, q, hA0, hV, rfl, hfz, hnd⟩ := hW
  have hA : DataW.TrodAll enc Try.prog W 0 (fun _ => true) true Try.f8.params.toList args.toList ds p := hA0
  rw [Try.params8] at hA hval
  obtain ⟨v0, vs0, d0, ds0, p0, q0, hargs, rfl, rfl, h0, r0⟩ := trodAll_cons hA
  obtain ⟨v1, vs1, d1, ds1, p1, q1, rfl, rfl, rfl, h1, r1⟩ := trodAll_cons r0
  obtain ⟨v2, vs2, d2, ds2, p2, q2, rfl, rfl, rfl, h2, r2⟩ := trodAll_cons r1
  obtain ⟨v3, vs3, d3, ds3, p3, q3, rfl, rfl, rfl, h3, r3⟩ := trodAll_cons r2
  obtain ⟨rfl, rfl, rfl⟩ := trodAll_nil r3
  obtain rfl : args = #[v0, v1, v2, v3] := by cases args; simp_all
  obtain ⟨a0, rfl, rfl, rfl, k0⟩ := open_int Try.underlying3 (hval 0 _ _ rfl rfl) h0
  obtain ⟨oa1, la1, ca1, a1, rfl, ma1, k1, ga1⟩ := open_isbS Try.underlying51 (by kernel_rfl) (by kernel_rfl) (hval 1 _ _ rfl rfl) h1
  obtain ⟨oa2, la2, ca2, a2, rfl, ma2, ga2⟩ := open_boolS Try.underlying58 (by kernel_rfl) (by kernel_rfl) (hval 2 _ _ rfl rfl) h2
  obtain ⟨a3, rfl, rfl, rfl, k3⟩ := open_int Try.underlying3 (hval 3 _ _ rfl rfl) h3
  refine (crashBytes_any a0 oa1 la1 ca1 a1 oa2 la2 ca2 a2 a3 W (bd_i64 k0) ma1 k1 ga1 ma2 ga2 (bd_i64 k3)).mono fun e W' ⟨he, hb⟩ => ?_
  subst he
  obtain ⟨rfl, _⟩ := trodVars_none hV
  exact ⟨_, rfl, law_post laidOut (by kernel_rfl) rfl (by kernel_rfl) Try.underlying4 hW' rfl hb⟩

def args0 : Array Value := #[.int .i64 0, .slice none 0 0, .slice none 0 0, .int .i64 0]
theorem laid_met (os : Os) : laidMet Try.prog Rows.diskCrashBytesRow.laid ((laidWorld os).forCall (fun _ _ => 0) ⟨#[], args0, []⟩).memory :=
  laidMet_of_run' 8 (by kernel_rfl) (by kernel_rfl)
theorem reads (os : Os) {H : Type} (enc : TypeId × Value → H) : ∃ places, DataW.whole enc Try.prog ((laidWorld os).forCall (fun _ _ => 0) ⟨#[], args0, []⟩).memory Try.f8.params.toList Rows.diskCrashBytesSpec.vars false args0.toList 8 = some ([.lit (.int .i64 0), .nil, .nil, .lit (.int .i64 0)], [], places) :=
  ⟨[], by kernel_rfl⟩

set_option maxRecDepth 100000 in
theorem lifted (os : Os) (started : os.Started) (H : Type) (enc : TypeId × Value → H) (F : Stop.Interp) :
    ReturnsInHanded {} Try.checked os 8 .any ((OpenSpec.ofChange Rows.diskCrashBytesSpec).preRow enc Try.prog Try.f8 Rows.diskCrashBytesRow.domain false Rows.diskCrashBytesRow.laid) (((OpenSpec.ofChange Rows.diskCrashBytesSpec).at F).post enc Try.prog Try.f8 false true false false) := by
  obtain ⟨places, hx⟩ := reads os enc
  refine returnsInHanded_of_row (C := Try.checked) (s := OpenSpec.ofChange Rows.diskCrashBytesSpec) own started (by kernel_rfl) Try.func8
    (witness_row_at (enc := enc) (C := Try.checked) false (laidWorld os) args0 rfl (by kernel_rfl) (by kernel_rfl) (by kernel_rfl)
      (OpenSpec.preRow_of_cond 8 hx (by kernel_rfl) (fun k hk => by cases hk) (by kernel_rfl) (laid_met os))) ?_
  intro W base args ds gs before hval hW _ _ _ hL _ _
  exact contract H enc W base args ds gs before hval hW hL

theorem said : Rows.DiskCrashBytesSaid :=
  OpenClaim.holds_of_cond 8 Try.f8 rfl rfl rfl rfl rfl rfl rfl ⟨rfl, rfl, rfl, rfl, rfl⟩ rfl rfl rfl rfl rfl (by kernel_rfl) Try.func8 (by kernel_rfl)
    (of_decide_eq_true (by kernel_rfl)) (by unfold Func.isWrapper; first | (rw [if_pos (by decide +kernel)]; kernel_rfl) | (rw [if_neg (by decide +kernel)]; exact ⟨rfl, rfl⟩))
    (fun os started H enc _ F => by rw [OpenClaim.pre_eq_preRow]; exact lifted os started H enc F)

end diskCrashBytes
end Go.Proofs.Ytgmghfgcpjpigaa
