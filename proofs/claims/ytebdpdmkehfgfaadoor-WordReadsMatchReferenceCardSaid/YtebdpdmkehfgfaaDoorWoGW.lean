/- Numbers in words, as mathematics: what the three tongues say, and what is read back. (Made by a script from the program's tables: see NOTES.md.) -/
/- Numbers in words: what the laws ask of them. -/
/- Numbers in words: a number found within other words; names of months and days. (Made by a script from the program's tables: see NOTES.md.) -/
/- Numbers in words: what the reference says is what the tongues say. -/
/- Numbers among other words: what is found is the longest. -/
/- Which words are number words: those of the numbers below 1000 and of whole thousands. -/
/- Number words: the reference's short cuts leave none out. -/
import Derived.Test.YtebdpdmkehfgfaaDoorBase
set_option linter.unusedVariables false
set_option linter.unusedSimpArgs false
namespace Go.Proofs.YtebdpdmkehfgfaaDoor
namespace Wo
abbrev B := List UInt8
def ones : Nat → List B
  | 0 => [[122, 101, 114, 111], [111, 110, 101], [116, 119, 111], [116, 104, 114, 101, 101], [102, 111, 117, 114], [102, 105, 118, 101], [115, 105, 120], [115, 101, 118, 101, 110], [101, 105, 103, 104, 116], [110, 105, 110, 101], [116, 101, 110], [101, 108, 101, 118, 101, 110], [116, 119, 101, 108, 118, 101], [116, 104, 105, 114, 116, 101, 101, 110], [102, 111, 117, 114, 116, 101, 101, 110], [102, 105, 102, 116, 101, 101, 110], [115, 105, 120, 116, 101, 101, 110], [115, 101, 118, 101, 110, 116, 101, 101, 110], [101, 105, 103, 104, 116, 101, 101, 110], [110, 105, 110, 101, 116, 101, 101, 110]]
  | 1 => [[110, 117, 108, 108], [101, 105, 110, 115], [122, 119, 101, 105], [100, 114, 101, 105], [118, 105, 101, 114], [102, 117, 101, 110, 102], [115, 101, 99, 104, 115], [115, 105, 101, 98, 101, 110], [97, 99, 104, 116], [110, 101, 117, 110], [122, 101, 104, 110], [101, 108, 102], [122, 119, 111, 101, 108, 102], [100, 114, 101, 105, 122, 101, 104, 110], [118, 105, 101, 114, 122, 101, 104, 110], [102, 117, 101, 110, 102, 122, 101, 104, 110], [115, 101, 99, 104, 122, 101, 104, 110], [115, 105, 101, 98, 122, 101, 104, 110], [97, 99, 104, 116, 122, 101, 104, 110], [110, 101, 117, 110, 122, 101, 104, 110]]
  | _ => [[99, 101, 114, 111], [117, 110, 111], [100, 111, 115], [116, 114, 101, 115], [99, 117, 97, 116, 114, 111], [99, 105, 110, 99, 111], [115, 101, 105, 115], [115, 105, 101, 116, 101], [111, 99, 104, 111], [110, 117, 101, 118, 101], [100, 105, 101, 122], [111, 110, 99, 101], [100, 111, 99, 101], [116, 114, 101, 99, 101], [99, 97, 116, 111, 114, 99, 101], [113, 117, 105, 110, 99, 101], [100, 105, 101, 99, 105, 115, 101, 105, 115], [100, 105, 101, 99, 105, 115, 105, 101, 116, 101], [100, 105, 101, 99, 105, 111, 99, 104, 111], [100, 105, 101, 99, 105, 110, 117, 101, 118, 101]]
def tens : Nat → List B
  | 0 => [[116, 119, 101, 110, 116, 121], [116, 104, 105, 114, 116, 121], [102, 111, 114, 116, 121], [102, 105, 102, 116, 121], [115, 105, 120, 116, 121], [115, 101, 118, 101, 110, 116, 121], [101, 105, 103, 104, 116, 121], [110, 105, 110, 101, 116, 121]]
  | 1 => [[122, 119, 97, 110, 122, 105, 103], [100, 114, 101, 105, 115, 115, 105, 103], [118, 105, 101, 114, 122, 105, 103], [102, 117, 101, 110, 102, 122, 105, 103], [115, 101, 99, 104, 122, 105, 103], [115, 105, 101, 98, 122, 105, 103], [97, 99, 104, 116, 122, 105, 103], [110, 101, 117, 110, 122, 105, 103]]
  | _ => [[118, 101, 105, 110, 116, 101], [116, 114, 101, 105, 110, 116, 97], [99, 117, 97, 114, 101, 110, 116, 97], [99, 105, 110, 99, 117, 101, 110, 116, 97], [115, 101, 115, 101, 110, 116, 97], [115, 101, 116, 101, 110, 116, 97], [111, 99, 104, 101, 110, 116, 97], [110, 111, 118, 101, 110, 116, 97]]
def hundreds : List B := [[99, 105, 101, 110, 116, 111], [100, 111, 115, 99, 105, 101, 110, 116, 111, 115], [116, 114, 101, 115, 99, 105, 101, 110, 116, 111, 115], [99, 117, 97, 116, 114, 111, 99, 105, 101, 110, 116, 111, 115], [113, 117, 105, 110, 105, 101, 110, 116, 111, 115], [115, 101, 105, 115, 99, 105, 101, 110, 116, 111, 115], [115, 101, 116, 101, 99, 105, 101, 110, 116, 111, 115], [111, 99, 104, 111, 99, 105, 101, 110, 116, 111, 115], [110, 111, 118, 101, 99, 105, 101, 110, 116, 111, 115]]
def hundred : B := [104, 117, 110, 100, 114, 101, 100]
def thousand : B := [116, 104, 111, 117, 115, 97, 110, 100]
def hundert : B := [104, 117, 110, 100, 101, 114, 116]
def tausend : B := [116, 97, 117, 115, 101, 110, 100]
def cien : B := [99, 105, 101, 110]
def mil : B := [109, 105, 108]
def und : B := [117, 110, 100]
def veinti : B := [118, 101, 105, 110, 116, 105]
def ein : B := [101, 105, 110]
def un : B := [117, 110]
def yy : B := [121]
def wordOf (k n : Nat) : B := if n < 20 then (ones k).getD n [] else (tens k).getD (n / 10 - 2) []
def idx (x : B) (l : List B) : Option Nat := l.findIdx? (· == x)
def simple (k : Nat) (s : B) : Int := match idx s (ones k) with
  | some i => i
  | none => match idx s (tens k) with
    | some i => 20 + 10 * (i : Int)
    | none => -1
def tao (t o : Int) : Int := if t < 20 ∨ t % 10 ≠ 0 ∨ o < 1 ∨ o > 9 then -1 else t + o
/-- what is before and behind the first sep -/
def cut (sep : B) : B → Option (B × B)
  | [] => if sep.isPrefixOf [] then some ([], []) else none
  | c :: r => if sep.isPrefixOf (c :: r) then some ([], (c :: r).drop sep.length) else (cut sep r).map fun x => (c :: x.1, x.2)
def cutPrefix (p s : B) : Option B := if p.isPrefixOf s then some (s.drop p.length) else none
def cutSuffix (p s : B) : Option B := if p.isSuffixOf s then some (s.take (s.length - p.length)) else none
def trim (p s : B) : B := (cutSuffix p s).getD s
def orNone (n m : Int) : Int := if n < 0 ∨ m < 0 then -1 else n + m
def guess (th : B) (alone : Int) (small : List B → Int) (l : List B) : Int := match idx th l with
  | none => small l
  | some i =>
    let q := if i > 0 then small (l.take i) else alone
    let r := if i + 1 < l.length then small (l.drop (i + 1)) else 0
    if q < 0 ∨ r < 0 then -1 else 1000 * q + r
-- English
def enS (n : Nat) : List B :=
  (if n / 100 > 0 then [wordOf 0 (n / 100), hundred] else []) ++
  (if n / 100 > 0 ∧ n % 100 = 0 then [] else if n % 100 < 20 ∨ n % 10 = 0 then [wordOf 0 (n % 100)] else [wordOf 0 (n % 100 - n % 10) ++ [45] ++ wordOf 0 (n % 10)])
def en (n : Nat) : List B := if n / 1000 > 0 then enS (n / 1000) ++ thousand :: (if n % 1000 = 0 then [] else enS (n % 1000)) else enS n
def enTail (n : Int) : List B → Int
  | [s] => orNone n (match cut [45] s with
    | some (t, o) => tao (simple 0 t) (simple 0 o)
    | none => simple 0 s)
  | _ => -1
def enSmall : List B → Int
  | a :: h :: rest => if h = hundred then (if rest = [] then 100 * simple 0 a else enTail (100 * simple 0 a) rest) else enTail 0 (a :: h :: rest)
  | l => enTail 0 l
-- German
def joined (n : Nat) : B := if n = 1 then trim [115] (wordOf 1 n) else wordOf 1 n
def deW (n : Nat) : B :=
  (if n / 100 > 0 then joined (n / 100) ++ hundert else []) ++
  (if n / 100 > 0 ∧ n % 100 = 0 then [] else if n % 100 < 20 ∨ n % 10 = 0 then wordOf 1 (n % 100) else joined (n % 10) ++ und ++ wordOf 1 (n % 100 - n % 10))
def deQ (q : Nat) : B := let w := deW q; if (ein ++ [115]).isSuffixOf w then trim [115] w else w
def de (n : Nat) : List B := if n < 1000 then [deW n] else (deQ (n / 1000) ++ tausend) :: (if n % 1000 > 0 then [deW (n % 1000)] else [])
def deOne (s : B) : Int := if s = ein then 1 else simple 1 s
def deTail (n : Int) (s : B) : Int := orNone n (match cut und s with
  | some (o, t) => tao (simple 1 t) (deOne o)
  | none => simple 1 s)
def deSmall : List B → Int
  | [s] => match cut hundert s with
    | some (h, rest) => if rest = [] then 100 * deOne h else deTail (100 * deOne h) rest
    | none => deTail 0 s
  | _ => -1
def deGuess (l : List B) : Int := match cutSuffix tausend (l.headD []) with
  | none => deSmall l
  | some q =>
    let n := if ein.isSuffixOf q then deSmall [q ++ [115]] else deSmall [q]
    let r := if l.length > 1 then deSmall (l.drop 1) else 0
    if n < 0 ∨ r < 0 then -1 else 1000 * n + r
-- Spanish
def esS (n : Nat) : List B := if n = 100 then [cien] else
  (if n / 100 > 0 then [hundreds.getD (n / 100 - 1) []] else []) ++
  (if n / 100 > 0 ∧ n % 100 = 0 then [] else if n % 100 < 20 ∨ n % 10 = 0 then [wordOf 2 (n % 100)] else if n % 100 / 10 = 2 then [veinti ++ wordOf 2 (n % 10)] else [wordOf 2 (n % 100 - n % 10), yy, wordOf 2 (n % 10)])
def esLast : List B → List B
  | [] => []
  | [s] => [if (un ++ [111]).isSuffixOf s then trim [111] s else s]
  | s :: l => s :: esLast l
def es (n : Nat) : List B := if n / 1000 > 0 then (if n / 1000 > 1 then esLast (esS (n / 1000)) else []) ++ mil :: (if n % 1000 = 0 then [] else esS (n % 1000)) else esS n
def esOne (s : B) : Int := if s = un then 1 else simple 2 s
def esTail (n : Int) : List B → Int
  | [] => n
  | [s] => let m := match cutPrefix veinti s with
      | some o => tao 20 (esOne o)
      | none => esOne s
    if m < 0 then -1 else n + m
  | [a, y, o] => if y = yy then (let m := tao (simple 2 a) (esOne o); if m < 0 then -1 else n + m) else -1
  | _ => -1
def esSmall : List B → Int
  | [] => -1
  | s :: l => if s = cien then esTail 100 l else match idx s hundreds with
    | some i => esTail (100 * ((i : Int) + 1)) l
    | none => esTail 0 (s :: l)
def words : Nat → Nat → List B
  | 0 => en
  | 1 => de
  | _ => es
def read : Nat → List B → Int
  | 0 => guess thousand (-1) enSmall
  | 1 => deGuess
  | _ => guess mil 1 esSmall

theorem below {p : Nat → Bool} {N : Nat} (h : (List.range N).all p = true) {n : Nat} (hn : n < N) : p n = true := List.all_eq_true.1 h n (List.mem_range.2 hn)
set_option maxRecDepth 100000 in
theorem en_small {n : Nat} (h : n < 1000) : enSmall (enS n) = n ∧ idx thousand (enS n) = none ∧ (enS n).length ≠ 0 ∧ (enS n).length ≤ 4 := by
  have k := below (p := fun n => decide (enSmall (enS n) = n ∧ idx thousand (enS n) = none ∧ (enS n).length ≠ 0 ∧ (enS n).length ≤ 4)) (N := 1000) (by decide +kernel) h
  exact of_decide_eq_true k
set_option maxRecDepth 100000 in
theorem es_small {n : Nat} (h : n < 1000) : esSmall (esS n) = n ∧ idx mil (esS n) = none ∧ (esS n).length ≠ 0 ∧ (esS n).length ≤ 4 ∧ esSmall (esLast (esS n)) = n ∧ idx mil (esLast (esS n)) = none ∧ (esLast (esS n)).length = (esS n).length := by
  have k := below (p := fun n => decide (esSmall (esS n) = n ∧ idx mil (esS n) = none ∧ (esS n).length ≠ 0 ∧ (esS n).length ≤ 4 ∧ esSmall (esLast (esS n)) = n ∧ idx mil (esLast (esS n)) = none ∧ (esLast (esS n)).length = (esS n).length)) (N := 1000) (by decide +kernel) h
  exact of_decide_eq_true k
set_option maxRecDepth 100000 in
theorem de_small {n : Nat} (h : n < 1000) : deSmall [deW n] = n ∧ cutSuffix tausend (deW n) = none ∧ (if ein.isSuffixOf (deQ n) then deSmall [deQ n ++ [115]] else deSmall [deQ n]) = n := by
  have k := below (p := fun n => decide (deSmall [deW n] = n ∧ cutSuffix tausend (deW n) = none ∧ (if ein.isSuffixOf (deQ n) then deSmall [deQ n ++ [115]] else deSmall [deQ n]) = n)) (N := 1000) (by decide +kernel) h
  exact of_decide_eq_true k
theorem idx_mid {x : B} {l r : List B} (h : idx x l = none) : idx x (l ++ x :: r) = some l.length := by
  unfold idx at *
  rw [List.findIdx?_append, h]
  simp [List.findIdx?_cons]
theorem guess_mid {th : B} {alone : Int} {small : List B → Int} {l r : List B} {q m : Nat} (h : idx th l = none) (hl : if l = [] then alone = q else small l = q) (hr : if r = [] then m = 0 else small r = m) : guess th alone small (l ++ th :: r) = 1000 * q + m := by
  unfold guess
  rw [idx_mid h]
  have e1 : (l ++ th :: r).take l.length = l := by simp
  have e2 : (l ++ th :: r).drop (l.length + 1) = r := by rw [← List.drop_drop]; simp
  have e3 : (if l.length > 0 then small ((l ++ th :: r).take l.length) else alone) = (q : Int) := by
    rw [e1]
    cases l with
    | nil => simpa using hl
    | cons a l => simpa using hl
  have e4 : (if l.length + 1 < (l ++ th :: r).length then small ((l ++ th :: r).drop (l.length + 1)) else 0) = (m : Int) := by
    rw [e2]
    cases r with
    | nil => simp at hr; simp [hr]
    | cons a r => simpa using hr
  dsimp only
  rw [e3, e4, if_neg (by omega)]
theorem en_back {n : Nat} (h : n < 1000000) : read 0 (words 0 n) = n := by
  show guess thousand (-1) enSmall (en n) = n
  unfold en
  by_cases h0 : n / 1000 > 0
  · rw [if_pos h0]
    have s := en_small (n := n / 1000) (by omega)
    have t := en_small (n := n % 1000) (by omega)
    have ne : enS (n / 1000) ≠ [] := fun e => s.2.2.1 (by rw [e]; rfl)
    have ne2 : enS (n % 1000) ≠ [] := fun e => t.2.2.1 (by rw [e]; rfl)
    rw [guess_mid (q := n / 1000) (m := n % 1000) s.2.1 (by rw [if_neg ne]; exact s.1) (by
      by_cases hz : n % 1000 = 0
      · rw [if_pos hz]; simpa using hz
      · rw [if_neg hz, if_neg ne2]; exact t.1)]
    omega
  · rw [if_neg h0]
    have s := en_small (n := n) (by omega)
    unfold guess
    rw [s.2.1]
    exact s.1
theorem es_back {n : Nat} (h : n < 1000000) : read 2 (words 2 n) = n := by
  show guess mil 1 esSmall (es n) = n
  unfold es
  by_cases h0 : n / 1000 > 0
  · rw [if_pos h0]
    have s := es_small (n := n / 1000) (by omega)
    have t := es_small (n := n % 1000) (by omega)
    have ne : esLast (esS (n / 1000)) ≠ [] := fun e => s.2.2.1 (by rw [← s.2.2.2.2.2.2, e]; rfl)
    have ne2 : esS (n % 1000) ≠ [] := fun e => t.2.2.1 (by rw [e]; rfl)
    have hr : if (if n % 1000 = 0 then [] else esS (n % 1000)) = [] then n % 1000 = 0 else esSmall (if n % 1000 = 0 then [] else esS (n % 1000)) = ((n % 1000 : Nat) : Int) := by
      by_cases hz : n % 1000 = 0
      · rw [if_pos hz]; simpa using hz
      · rw [if_neg hz, if_neg ne2]; exact t.1
    by_cases h1 : n / 1000 > 1
    · rw [if_pos h1, guess_mid (q := n / 1000) (m := n % 1000) s.2.2.2.2.2.1 (by rw [if_neg ne]; exact s.2.2.2.2.1) hr]
      omega
    · rw [if_neg h1, guess_mid (q := n / 1000) (m := n % 1000) rfl (by rw [if_pos rfl]; omega) hr]
      omega
  · rw [if_neg h0]
    have s := es_small (n := n) (by omega)
    unfold guess
    rw [s.2.1]
    exact s.1
theorem cutSuffix_app (a p : B) : cutSuffix p (a ++ p) = some a := by
  unfold cutSuffix
  rw [if_pos (by simp)]
  simp
theorem de_back {n : Nat} (h : n < 1000000) : read 1 (words 1 n) = n := by
  show deGuess (de n) = n
  unfold de
  by_cases h0 : n < 1000
  · rw [if_pos h0]
    have s := de_small h0
    unfold deGuess
    rw [show ([deW n] : List B).headD [] = deW n from rfl, s.2.1]
    exact s.1
  · rw [if_neg h0]
    have s := de_small (n := n / 1000) (by omega)
    have t := de_small (n := n % 1000) (by omega)
    unfold deGuess
    rw [List.headD_cons, cutSuffix_app]
    dsimp only
    rw [s.2.2]
    by_cases hz : n % 1000 > 0
    · rw [if_pos hz]
      have e : (if ((deQ (n / 1000) ++ tausend) :: [deW (n % 1000)]).length > 1 then deSmall (((deQ (n / 1000) ++ tausend) :: [deW (n % 1000)]).drop 1) else 0) = ((n % 1000 : Nat) : Int) := by
        rw [if_pos (by simp)]
        exact t.1
      rw [e, if_neg (by omega)]
      omega
    · rw [if_neg hz]
      have e : (if ((deQ (n / 1000) ++ tausend) :: ([] : List B)).length > 1 then deSmall (((deQ (n / 1000) ++ tausend) :: ([] : List B)).drop 1) else 0) = 0 := by
        rw [if_neg (by simp)]
      rw [e, if_neg (by omega)]
      omega
end Wo
end Go.Proofs.YtebdpdmkehfgfaaDoor
set_option linter.unusedVariables false
set_option linter.unusedSimpArgs false
namespace Go.Proofs.YtebdpdmkehfgfaaDoor
namespace Wo
theorem en_len {n : Nat} (h : n < 1000000) : 1 ≤ (en n).length ∧ (en n).length ≤ 9 := by
  have s := en_small (n := n / 1000) (by omega)
  have t := en_small (n := n % 1000) (by omega)
  unfold en
  by_cases h0 : n / 1000 > 0
  · rw [if_pos h0, List.length_append, List.length_cons]
    by_cases hz : n % 1000 = 0
    · rw [if_pos hz, List.length_nil]; omega
    · rw [if_neg hz]; omega
  · rw [if_neg h0, show n = n % 1000 by omega]; omega
theorem es_len {n : Nat} (h : n < 1000000) : 1 ≤ (es n).length ∧ (es n).length ≤ 9 := by
  have s := es_small (n := n / 1000) (by omega)
  have t := es_small (n := n % 1000) (by omega)
  unfold es
  by_cases h0 : n / 1000 > 0
  · rw [if_pos h0, List.length_append, List.length_cons]
    have h1 : (if n / 1000 > 1 then esLast (esS (n / 1000)) else []).length ≤ 4 := by
      by_cases h1 : n / 1000 > 1
      · rw [if_pos h1]; omega
      · rw [if_neg h1]; exact Nat.zero_le _
    by_cases hz : n % 1000 = 0
    · rw [if_pos hz, List.length_nil]; omega
    · rw [if_neg hz]; omega
  · rw [if_neg h0, show n = n % 1000 by omega]; omega
theorem de_len (n : Nat) : 1 ≤ (de n).length ∧ (de n).length ≤ 9 := by
  unfold de
  by_cases h0 : n < 1000
  · rw [if_pos h0]; simp
  · rw [if_neg h0, List.length_cons]
    by_cases hz : n % 1000 > 0
    · rw [if_pos hz]; simp
    · rw [if_neg hz]; simp
/-- the number whose words l are -/
def number (k : Nat) (l : List B) : Option Nat := if l.length = 0 ∨ l.length > 9 then none else if read k l < 0 ∨ read k l > 999999 ∨ words k (read k l).toNat ≠ l then none else some (read k l).toNat
theorem words_len (k : Nat) {n : Nat} (h : n < 1000000) : 1 ≤ (words k n).length ∧ (words k n).length ≤ 9 := match k with
  | 0 => en_len h
  | 1 => de_len n
  | _ + 2 => es_len h
theorem words_back (k : Nat) {n : Nat} (h : n < 1000000) : read k (words k n) = n := match k with
  | 0 => en_back h
  | 1 => de_back h
  | _ + 2 => es_back h
/-- THE LAYER'S THEOREM on the mathematics: a number's words are read back -/
theorem number_words (k : Nat) {n : Nat} (h : n < 1000000) : number k (words k n) = some n := by
  have e := words_back k h
  have l := words_len k h
  unfold number
  rw [if_neg (by omega), e, Int.toNat_natCast, if_neg (by
    rintro (a | a | a)
    · omega
    · omega
    · exact a rfl)]
theorem number_some {k n : Nat} {l : List B} (h : number k l = some n) : n < 1000000 ∧ words k n = l := by
  unfold number at h
  split at h
  · cases h
  · split at h
    · cases h
    · rename_i c
      have := Option.some.inj h
      subst this
      have c1 : ¬ read k l > 999999 := fun z => c (.inr (.inl z))
      exact ⟨by omega, Classical.byContradiction fun z => c (.inr (.inr z))⟩
theorem words_inj (k : Nat) {n m : Nat} (hn : n < 1000000) (hm : m < 1000000) (h : words k n = words k m) : n = m := by
  have a := words_back k hn
  rw [h, words_back k hm] at a
  omega
/-- the words that are no numbers, but stand in some -/
def part : Nat → B → Bool
  | 0, s => s == hundred || s == thousand
  | 1, _ => false
  | _, s => s == yy || s == un || s == veinti ++ un || s == hundreds.headD [] || s == mil
def isW (k : Nat) (s : B) : Bool := (number k [s]).isSome || part k s
def plain (s : B) : Bool := s ≠ [] && s.all fun c => c == 45 || (97 ≤ c && c ≤ 122)
set_option maxRecDepth 100000 in
theorem en_is {n : Nat} (h : n < 1000) : (enS n).all (fun s => isW 0 s && plain s) = true :=
  below (p := fun n => (enS n).all (fun s => isW 0 s && plain s)) (N := 1000) (by decide +kernel) h
set_option maxRecDepth 100000 in
theorem es_is {n : Nat} (h : n < 1000) : (esS n ++ esLast (esS n)).all (fun s => isW 2 s && plain s) = true :=
  below (p := fun n => (esS n ++ esLast (esS n)).all (fun s => isW 2 s && plain s)) (N := 1000) (by decide +kernel) h
set_option maxRecDepth 100000 in
theorem de_is {n : Nat} (h : n < 1000) : (plain (deW n) && plain (deQ n ++ tausend)) = true :=
  below (p := fun n => plain (deW n) && plain (deQ n ++ tausend)) (N := 1000) (by decide +kernel) h
theorem one_is (k : Nat) {n : Nat} (h : n < 1000000) {s : B} (e : words k n = [s]) : isW k s = true := by
  unfold isW
  rw [← e, number_words k h]
  rfl
/-- a number's words are number words, of letters and hyphens -/
theorem words_is (k : Nat) (hk : k < 3) {n : Nat} (h : n < 1000000) : ∀ s ∈ words k n, isW k s = true ∧ plain s = true := by
  intro s hs
  rcases (show k = 0 ∨ k = 1 ∨ k = 2 by omega) with rfl | rfl | rfl
  · have s1 := en_is (n := n / 1000) (by omega)
    have s2 := en_is (n := n % 1000) (by omega)
    have q : ∀ {m : Nat}, (enS m).all (fun s => isW 0 s && plain s) = true → s ∈ enS m → isW 0 s = true ∧ plain s = true := fun a b => by
      have := List.all_eq_true.1 a s b
      exact Bool.and_eq_true_iff.1 this
    change s ∈ en n at hs
    unfold en at hs
    by_cases h0 : n / 1000 > 0
    · rw [if_pos h0] at hs
      rcases List.mem_append.1 hs with hs | hs
      · exact q s1 hs
      · rcases List.mem_cons.1 hs with rfl | hs
        · exact ⟨by decide +kernel, by decide +kernel⟩
        · by_cases hz : n % 1000 = 0
          · rw [if_pos hz] at hs; cases hs
          · rw [if_neg hz] at hs; exact q s2 hs
    · rw [if_neg h0, show n = n % 1000 by omega] at hs
      exact q s2 hs
  · change s ∈ de n at hs
    unfold de at hs
    have s1 := Bool.and_eq_true_iff.1 (de_is (n := n / 1000) (by omega))
    have s2 := Bool.and_eq_true_iff.1 (de_is (n := n % 1000) (by omega))
    have one : ∀ {m : Nat}, m < 1000 → isW 1 (deW m) = true := fun {m} hm => one_is 1 (n := m) (by omega) (show de m = _ by unfold de; rw [if_pos hm])
    by_cases h0 : n < 1000
    · rw [if_pos h0] at hs
      rcases List.mem_cons.1 hs with rfl | hs
      · exact ⟨one h0, by rw [show n % 1000 = n by omega] at s2; exact s2.1⟩
      · cases hs
    · rw [if_neg h0] at hs
      rcases List.mem_cons.1 hs with rfl | hs
      · refine ⟨one_is 1 (n := n - n % 1000) (by omega) ?_, s1.2⟩
        show de _ = _
        unfold de
        rw [if_neg (by omega), if_neg (by omega), show (n - n % 1000) / 1000 = n / 1000 by omega]
      · by_cases hz : n % 1000 > 0
        · rw [if_pos hz] at hs
          rcases List.mem_cons.1 hs with rfl | hs
          · exact ⟨one (by omega), s2.1⟩
          · cases hs
        · rw [if_neg hz] at hs; cases hs
  · have s1 := es_is (n := n / 1000) (by omega)
    have s2 := es_is (n := n % 1000) (by omega)
    have q : ∀ {m : Nat}, (esS m ++ esLast (esS m)).all (fun s => isW 2 s && plain s) = true → s ∈ esS m ++ esLast (esS m) → isW 2 s = true ∧ plain s = true := fun a b => by
      have := List.all_eq_true.1 a s b
      exact Bool.and_eq_true_iff.1 this
    change s ∈ es n at hs
    unfold es at hs
    by_cases h0 : n / 1000 > 0
    · rw [if_pos h0] at hs
      rcases List.mem_append.1 hs with hs | hs
      · by_cases h1 : n / 1000 > 1
        · rw [if_pos h1] at hs; exact q s1 (List.mem_append_right _ hs)
        · rw [if_neg h1] at hs; cases hs
      · rcases List.mem_cons.1 hs with rfl | hs
        · exact ⟨by decide +kernel, by decide +kernel⟩
        · by_cases hz : n % 1000 = 0
          · rw [if_pos hz] at hs; cases hs
          · rw [if_neg hz] at hs; exact q s2 (List.mem_append_left _ hs)
    · rw [if_neg h0, show n = n % 1000 by omega] at hs
      exact q s2 (List.mem_append_left _ hs)
/-- a number word consists of letters and hyphens -/
theorem is_plain (k : Nat) (hk : k < 3) {s : B} (h : isW k s = true) : plain s = true := by
  unfold isW at h
  rcases Bool.or_eq_true_iff.1 h with h | h
  · obtain ⟨n, e⟩ := Option.isSome_iff_exists.1 h
    obtain ⟨h1, h2⟩ := number_some e
    exact (words_is k hk h1 s (by rw [h2]; exact List.mem_cons_self)).2
  · rcases (show k = 0 ∨ k = 1 ∨ k = 2 by omega) with rfl | rfl | rfl
    · unfold part at h
      simp only [Bool.or_eq_true, beq_iff_eq] at h
      rcases h with rfl | rfl <;> decide +kernel
    · cases h
    · unfold part at h
      simp only [Bool.or_eq_true, beq_iff_eq] at h
      rcases h with (((rfl | rfl) | rfl) | rfl) | rfl <;> decide +kernel
/-- thousands, and the rest -/
theorem words_split (k : Nat) {n : Nat} (h0 : 1000 ≤ n) (hz : n % 1000 ≠ 0) : words k n = words k (n - n % 1000) ++ words k (n % 1000) := by
  have e1 : (n - n % 1000) / 1000 = n / 1000 := by omega
  have e2 : (n - n % 1000) % 1000 = 0 := by omega
  have e3 : n % 1000 / 1000 = 0 := by omega
  have p : n / 1000 > 0 := by omega
  match k with
  | 0 => show en _ = en _ ++ en _; unfold en; rw [e1, e2, e3]; simp [p, hz]
  | 1 => show de _ = de _ ++ de _; unfold de; rw [e1, e2]; simp [show ¬ n < 1000 by omega, show ¬ n - n % 1000 < 1000 by omega, show n % 1000 < 1000 by omega, show 0 < n % 1000 by omega]
  | _ + 2 => show es _ = es _ ++ es _; unfold es; rw [e1, e2, e3]; simp [p, hz]
end Wo
end Go.Proofs.YtebdpdmkehfgfaaDoor
set_option linter.unusedVariables false
set_option linter.unusedSimpArgs false
namespace Go.Proofs.YtebdpdmkehfgfaaDoor
namespace Wo
/-- how many number words a list begins with, at most c -/
def run (k : Nat) : Nat → List B → Nat
  | 0, _ => 0
  | _ + 1, [] => 0
  | c + 1, s :: l => if isW k s then run k c l + 1 else 0
/-- the number with the most words, at most c, at the head of a list -/
def best (k : Nat) (l : List B) : Nat → Option (Nat × Nat)
  | 0 => none
  | c + 1 => match number k (l.take (c + 1)) with
    | some n => some (n, c + 1)
    | none => best k l c
def pre (k : Nat) (l : List B) (at0 : Nat) : Option (Nat × Nat) := best k (l.drop at0) (run k 9 (l.drop at0))
theorem run_app (k : Nat) : ∀ (c : Nat) (l t : List B), (∀ s ∈ l, isW k s = true) → l.length ≤ c → (∀ s r, t = s :: r → isW k s = false) → run k c (l ++ t) = l.length
  | 0, l, t, _, hc, _ => by
    have : l = [] := List.length_eq_zero_iff.1 (by omega)
    subst this
    rfl
  | c + 1, [], t, _, _, ht => by
    cases t with
    | nil => rfl
    | cons s r => show (if isW k s then run k c r + 1 else 0) = 0; rw [ht s r rfl]; rfl
  | c + 1, s :: l, t, hl, hc, ht => by
    show (if isW k s then run k c (l ++ t) + 1 else 0) = l.length + 1
    rw [hl s List.mem_cons_self, run_app k c l t (fun x hx => hl x (List.mem_cons_of_mem _ hx)) (by simp at hc; omega) ht]
    rfl
theorem best_some (k : Nat) (l : List B) : ∀ (c : Nat) {n m : Nat}, best k l c = some (n, m) → 1 ≤ m ∧ m ≤ c ∧ n < 1000000 ∧ words k n = l.take m
  | 0, n, m, h => by cases h
  | c + 1, n, m, h => by
    unfold best at h
    cases e : number k (l.take (c + 1)) with
    | some x =>
      rw [e] at h
      cases h
      obtain ⟨h1, h2⟩ := number_some e
      exact ⟨by omega, by omega, h1, h2⟩
    | none =>
      rw [e] at h
      obtain ⟨h1, h2, h3⟩ := best_some k l c h
      exact ⟨h1, by omega, h3⟩
theorem run_len (k : Nat) : ∀ (c : Nat) (l : List B), run k c l ≤ l.length ∧ run k c l ≤ c
  | 0, l => ⟨Nat.zero_le _, Nat.le_refl _⟩
  | c + 1, [] => ⟨Nat.le_refl _, Nat.zero_le _⟩
  | c + 1, s :: l => by
    show (if isW k s then run k c l + 1 else 0) ≤ l.length + 1 ∧ (if isW k s then run k c l + 1 else 0) ≤ c + 1
    have := run_len k c l
    split <;> omega
/-- THE LAYER'S OTHER THEOREM on the mathematics: a number's words are found among others -/
theorem pre_found (k : Nat) (hk : k < 3) {n : Nat} (h : n < 1000000) (head tail : List B) (ht : ∀ s r, tail = s :: r → isW k s = false) : pre k (head ++ words k n ++ tail) head.length = some (n, (words k n).length) := by
  unfold pre
  have l := words_len k h
  rw [List.append_assoc, List.drop_left, run_app k 9 _ tail (fun s hs => (words_is k hk h s hs).1) l.2 ht]
  obtain ⟨c, hc⟩ : ∃ c, (words k n).length = c + 1 := ⟨(words k n).length - 1, by omega⟩
  rw [hc]
  unfold best
  rw [← hc, List.take_left, number_words k h]
/-- what is found are the words that stand there -/
theorem pre_is (k : Nat) (l : List B) (at0 : Nat) {n m : Nat} (h : pre k l at0 = some (n, m)) : 1 ≤ m ∧ at0 + m ≤ l.length ∧ n < 1000000 ∧ words k n = (l.drop at0).take m := by
  obtain ⟨h1, h2, h3, h4⟩ := best_some k _ _ h
  have := (run_len k 9 (l.drop at0)).1
  rw [List.length_drop] at this
  exact ⟨h1, by omega, h3, h4⟩
def months : Nat → List B
  | 0 => [[106, 97, 110, 117, 97, 114, 121], [102, 101, 98, 114, 117, 97, 114, 121], [109, 97, 114, 99, 104], [97, 112, 114, 105, 108], [109, 97, 121], [106, 117, 110, 101], [106, 117, 108, 121], [97, 117, 103, 117, 115, 116], [115, 101, 112, 116, 101, 109, 98, 101, 114], [111, 99, 116, 111, 98, 101, 114], [110, 111, 118, 101, 109, 98, 101, 114], [100, 101, 99, 101, 109, 98, 101, 114]]
  | 1 => [[106, 97, 110, 117, 97, 114], [102, 101, 98, 114, 117, 97, 114], [109, 97, 101, 114, 122], [97, 112, 114, 105, 108], [109, 97, 105], [106, 117, 110, 105], [106, 117, 108, 105], [97, 117, 103, 117, 115, 116], [115, 101, 112, 116, 101, 109, 98, 101, 114], [111, 107, 116, 111, 98, 101, 114], [110, 111, 118, 101, 109, 98, 101, 114], [100, 101, 122, 101, 109, 98, 101, 114]]
  | _ => [[101, 110, 101, 114, 111], [102, 101, 98, 114, 101, 114, 111], [109, 97, 114, 122, 111], [97, 98, 114, 105, 108], [109, 97, 121, 111], [106, 117, 110, 105, 111], [106, 117, 108, 105, 111], [97, 103, 111, 115, 116, 111], [115, 101, 112, 116, 105, 101, 109, 98, 114, 101], [111, 99, 116, 117, 98, 114, 101], [110, 111, 118, 105, 101, 109, 98, 114, 101], [100, 105, 99, 105, 101, 109, 98, 114, 101]]
def days : Nat → List B
  | 0 => [[109, 111, 110, 100, 97, 121], [116, 117, 101, 115, 100, 97, 121], [119, 101, 100, 110, 101, 115, 100, 97, 121], [116, 104, 117, 114, 115, 100, 97, 121], [102, 114, 105, 100, 97, 121], [115, 97, 116, 117, 114, 100, 97, 121], [115, 117, 110, 100, 97, 121]]
  | 1 => [[109, 111, 110, 116, 97, 103], [100, 105, 101, 110, 115, 116, 97, 103], [109, 105, 116, 116, 119, 111, 99, 104], [100, 111, 110, 110, 101, 114, 115, 116, 97, 103], [102, 114, 101, 105, 116, 97, 103], [115, 97, 109, 115, 116, 97, 103], [115, 111, 110, 110, 116, 97, 103]]
  | _ => [[108, 117, 110, 101, 115], [109, 97, 114, 116, 101, 115], [109, 105, 101, 114, 99, 111, 108, 101, 115], [106, 117, 101, 118, 101, 115], [118, 105, 101, 114, 110, 101, 115], [115, 97, 98, 97, 100, 111], [100, 111, 109, 105, 110, 103, 111]]
/-- names are found back, are not empty and are no number words -/
theorem months_ok {k : Nat} (hk : k < 3) {i : Nat} (hi : i < 12) : ∃ s, (months k)[i]? = some s ∧ idx s (months k) = some i ∧ isW k s = false ∧ s ≠ [] := by
  have h := below (p := fun k => (List.range 12).all fun i => match (months k)[i]? with
    | some s => decide (idx s (months k) = some i) && (!isW k s) && decide (s ≠ [])
    | none => false) (N := 3) (by decide +kernel) hk
  have h2 := below (N := 12) h hi
  cases e : (months k)[i]? with
  | none => rw [e] at h2; cases h2
  | some s =>
    rw [e] at h2
    simp only [Bool.and_eq_true, decide_eq_true_eq, Bool.not_eq_true'] at h2
    exact ⟨s, rfl, h2.1.1, h2.1.2, h2.2⟩
/-- names are found back, are not empty and are no number words -/
theorem days_ok {k : Nat} (hk : k < 3) {i : Nat} (hi : i < 7) : ∃ s, (days k)[i]? = some s ∧ idx s (days k) = some i ∧ isW k s = false ∧ s ≠ [] := by
  have h := below (p := fun k => (List.range 7).all fun i => match (days k)[i]? with
    | some s => decide (idx s (days k) = some i) && (!isW k s) && decide (s ≠ [])
    | none => false) (N := 3) (by decide +kernel) hk
  have h2 := below (N := 7) h hi
  cases e : (days k)[i]? with
  | none => rw [e] at h2; cases h2
  | some s =>
    rw [e] at h2
    simp only [Bool.and_eq_true, decide_eq_true_eq, Bool.not_eq_true'] at h2
    exact ⟨s, rfl, h2.1.1, h2.1.2, h2.2⟩
end Wo
end Go.Proofs.YtebdpdmkehfgfaaDoor
set_option linter.unusedVariables false
set_option linter.unusedSimpArgs false
namespace Go.Proofs.YtebdpdmkehfgfaaDoor
namespace Wo
def rlast (k n : Nat) (ends : Bool) : B := if n % 10 = 1 ∧ k = 1 ∧ ends = false then ein else if n % 10 = 1 ∧ k = 2 ∧ ends = false then un else (ones k).getD (n % 10) []
def rten (k n : Nat) : B := (tens k).getD (n / 10 - 2) []
def rbelow (k n : Nat) (ends : Bool) : List B :=
  if n = 1 then [rlast k n ends] else if n < 20 then [(ones k).getD n []] else if n % 10 = 0 then [rten k n]
  else if k = 1 then [(if n % 10 = 1 then ein else rlast k n ends) ++ und ++ rten k n]
  else if k = 2 ∧ n < 30 then [veinti ++ rlast k n ends] else if k = 2 then [rten k n, yy, rlast k n ends] else [rten k n ++ [45] ++ rlast k n ends]
def rrest (k n : Nat) (ends : Bool) : List B := if n % 100 > 0 then rbelow k (n % 100) ends else []
def rsmall (k n : Nat) (ends : Bool) : List B :=
  if n < 100 then rrest k n ends
  else if k = 1 then [(rbelow 1 (n / 100) false).headD [] ++ hundert ++ (rrest k n ends).headD []]
  else if k = 2 then (if n = 100 then [cien] else hundreds.getD (n / 100 - 1) [] :: rrest k n ends)
  else (ones 0).getD (n / 100) [] :: hundred :: rrest k n ends
def rthousand (k q : Nat) : List B :=
  if k = 1 then [(rsmall 1 q false).headD [] ++ tausend] else if k = 2 then (if q = 1 then [mil] else rsmall 2 q false ++ [mil]) else rsmall 0 q false ++ [thousand]
def rwords (k n : Nat) : List B := if n = 0 then [(ones k).headD []] else (if n ≥ 1000 then rthousand k (n / 1000) else []) ++ (if n % 1000 > 0 then rsmall k (n % 1000) true else [])
set_option maxRecDepth 100000 in
theorem r_small0 {m : Nat} (h : m < 1000) (h0 : 0 < m) : rsmall 0 m true = words 0 m ∧ rthousand 0 m = words 0 (1000 * m) := by
  have k := below (p := fun m => m == 0 || decide (rsmall 0 m true = words 0 m ∧ rthousand 0 m = words 0 (1000 * m))) (N := 1000) (by decide +kernel) h
  rcases Bool.or_eq_true_iff.1 k with k | k
  · have := beq_iff_eq.1 k
    omega
  · exact of_decide_eq_true k
set_option maxRecDepth 100000 in
theorem r_small1 {m : Nat} (h : m < 1000) (h0 : 0 < m) : rsmall 1 m true = words 1 m ∧ rthousand 1 m = words 1 (1000 * m) := by
  have k := below (p := fun m => m == 0 || decide (rsmall 1 m true = words 1 m ∧ rthousand 1 m = words 1 (1000 * m))) (N := 1000) (by decide +kernel) h
  rcases Bool.or_eq_true_iff.1 k with k | k
  · have := beq_iff_eq.1 k
    omega
  · exact of_decide_eq_true k
set_option maxRecDepth 100000 in
theorem r_small2 {m : Nat} (h : m < 1000) (h0 : 0 < m) : rsmall 2 m true = words 2 m ∧ rthousand 2 m = words 2 (1000 * m) := by
  have k := below (p := fun m => m == 0 || decide (rsmall 2 m true = words 2 m ∧ rthousand 2 m = words 2 (1000 * m))) (N := 1000) (by decide +kernel) h
  rcases Bool.or_eq_true_iff.1 k with k | k
  · have := beq_iff_eq.1 k
    omega
  · exact of_decide_eq_true k
theorem r_small {k : Nat} (hk : k < 3) {m : Nat} (h : m < 1000) (h0 : 0 < m) : rsmall k m true = words k m ∧ rthousand k m = words k (1000 * m) := by
  rcases (show k = 0 ∨ k = 1 ∨ k = 2 by omega) with rfl | rfl | rfl
  · exact r_small0 h h0
  · exact r_small1 h h0
  · exact r_small2 h h0
/-- the reference's words are the tongues' -/
theorem rwords_is {k : Nat} (hk : k < 3) {n : Nat} (h : n < 1000000) : rwords k n = words k n := by
  unfold rwords
  by_cases h0 : n = 0
  · subst h0
    rw [if_pos rfl]
    rcases (show k = 0 ∨ k = 1 ∨ k = 2 by omega) with rfl | rfl | rfl <;> decide +kernel
  · rw [if_neg h0]
    by_cases h1 : n ≥ 1000
    · rw [if_pos h1]
      have s := (r_small hk (m := n / 1000) (by omega) (by omega)).2
      by_cases hz : n % 1000 > 0
      · rw [if_pos hz, s, (r_small hk (m := n % 1000) (by omega) hz).1, words_split k h1 (by omega), show 1000 * (n / 1000) = n - n % 1000 by omega]
      · rw [if_neg hz, s, List.append_nil, show 1000 * (n / 1000) = n by omega]
    · rw [if_neg h1, if_pos (by omega), List.nil_append, show n % 1000 = n by omega]
      exact (r_small hk (by omega) (by omega)).1
end Wo
end Go.Proofs.YtebdpdmkehfgfaaDoor
set_option linter.unusedVariables false
set_option linter.unusedSimpArgs false
namespace Go.Proofs.YtebdpdmkehfgfaaDoor
namespace Wo
theorem run_ge (k : Nat) : ∀ (c : Nat) (a t : List B), (∀ s ∈ a, isW k s = true) → a.length ≤ c → a.length ≤ run k c (a ++ t)
  | _, [], _, _, _ => Nat.zero_le _
  | 0, _ :: _, _, _, hc => by simp at hc
  | c + 1, s :: a, t, ha, hc => by
    show a.length + 1 ≤ (if isW k s then run k c (a ++ t) + 1 else 0)
    rw [ha s List.mem_cons_self]
    have := run_ge k c a t (fun x hx => ha x (List.mem_cons_of_mem _ hx)) (by simp at hc; omega)
    simp only [if_true]
    omega
theorem best_max (k : Nat) (l : List B) {m n : Nat} (hm : 1 ≤ m) (e : number k (l.take m) = some n) : ∀ c, m ≤ c → ∃ n' m', best k l c = some (n', m') ∧ m ≤ m'
  | 0, h => by omega
  | c + 1, h => by
    unfold best
    cases e2 : number k (l.take (c + 1)) with
    | some x => exact ⟨x, c + 1, rfl, h⟩
    | none =>
      by_cases hc : m = c + 1
      · subst hc
        rw [e] at e2
        cases e2
      · exact best_max k l hm e c (by omega)
/-- words that stand at an index are no longer than what is found there -/
theorem pre_max {k : Nat} (hk : k < 3) {n : Nat} (h : n < 1000000) {l t : List B} {at0 : Nat} (hp : l.drop at0 = words k n ++ t) : ∃ n' m', pre k l at0 = some (n', m') ∧ (words k n).length ≤ m' ∧ ((words k n).length = m' → n = n') := by
  have hl := words_len k h
  have r := run_ge k 9 (words k n) t (fun s hs => (words_is k hk h s hs).1) hl.2
  have e : number k ((l.drop at0).take (words k n).length) = some n := by rw [hp, List.take_left]; exact number_words k h
  obtain ⟨n', m', b, hm⟩ := best_max k (l.drop at0) hl.1 e (run k 9 (l.drop at0)) (by rw [hp]; exact r)
  refine ⟨n', m', b, hm, fun he => ?_⟩
  obtain ⟨-, -, h3, h4⟩ := best_some k _ _ b
  rw [← he, hp, List.take_left] at h4
  exact words_inj k h h3 h4.symm
/-- nothing is found where no number's words stand -/
theorem pre_none {k : Nat} {l : List B} {at0 : Nat} (h : ∀ n t, n < 1000000 → l.drop at0 ≠ words k n ++ t) : pre k l at0 = none := by
  cases e : pre k l at0 with
  | none => rfl
  | some x =>
    obtain ⟨n, m⟩ := x
    obtain ⟨-, -, h3, h4⟩ := pre_is k l at0 e
    exact absurd (by rw [h4, List.take_append_drop]) (h n ((l.drop at0).drop m) h3)
set_option maxRecDepth 100000 in
theorem first_ne0 {m : Nat} (h : m < 1000) (h0 : 0 < m) : (words 0 m).head? ≠ (words 0 0).head? ∧ (words 0 (1000 * m)).head? ≠ (words 0 0).head? := by
  have k := below (p := fun m => m == 0 || decide ((words 0 m).head? ≠ (words 0 0).head? ∧ (words 0 (1000 * m)).head? ≠ (words 0 0).head?)) (N := 1000) (by decide +kernel) h
  rcases Bool.or_eq_true_iff.1 k with k | k
  · have := beq_iff_eq.1 k
    omega
  · exact of_decide_eq_true k
set_option maxRecDepth 100000 in
theorem first_ne1 {m : Nat} (h : m < 1000) (h0 : 0 < m) : (words 1 m).head? ≠ (words 1 0).head? ∧ (words 1 (1000 * m)).head? ≠ (words 1 0).head? := by
  have k := below (p := fun m => m == 0 || decide ((words 1 m).head? ≠ (words 1 0).head? ∧ (words 1 (1000 * m)).head? ≠ (words 1 0).head?)) (N := 1000) (by decide +kernel) h
  rcases Bool.or_eq_true_iff.1 k with k | k
  · have := beq_iff_eq.1 k
    omega
  · exact of_decide_eq_true k
set_option maxRecDepth 100000 in
theorem first_ne2 {m : Nat} (h : m < 1000) (h0 : 0 < m) : (words 2 m).head? ≠ (words 2 0).head? ∧ (words 2 (1000 * m)).head? ≠ (words 2 0).head? := by
  have k := below (p := fun m => m == 0 || decide ((words 2 m).head? ≠ (words 2 0).head? ∧ (words 2 (1000 * m)).head? ≠ (words 2 0).head?)) (N := 1000) (by decide +kernel) h
  rcases Bool.or_eq_true_iff.1 k with k | k
  · have := beq_iff_eq.1 k
    omega
  · exact of_decide_eq_true k
theorem first_ne {k : Nat} (hk : k < 3) {m : Nat} (h : m < 1000) (h0 : 0 < m) : (words k m).head? ≠ (words k 0).head? ∧ (words k (1000 * m)).head? ≠ (words k 0).head? := by
  rcases (show k = 0 ∨ k = 1 ∨ k = 2 by omega) with rfl | rfl | rfl
  · exact first_ne0 h h0
  · exact first_ne1 h h0
  · exact first_ne2 h h0
/-- no other number's words begin with the word for zero -/
theorem zero_first {k : Nat} (hk : k < 3) {n : Nat} (h : n < 1000000) (e : (words k n).head? = (words k 0).head?) : n = 0 := by
  apply Classical.byContradiction
  intro h0
  by_cases h1 : n < 1000
  · exact (first_ne hk h1 (by omega)).1 e
  · by_cases hz : n % 1000 = 0
    · have := (first_ne hk (m := n / 1000) (by omega) (by omega)).2
      rw [show 1000 * (n / 1000) = n by omega] at this
      exact this e
    · have := (first_ne hk (m := n / 1000) (by omega) (by omega)).2
      rw [show 1000 * (n / 1000) = n - n % 1000 by omega] at this
      rw [words_split k (by omega) hz] at e
      have l := (words_len k (n := n - n % 1000) (by omega)).1
      cases q : words k (n - n % 1000) with
      | nil => rw [q] at l; simp at l
      | cons a r =>
        rw [q] at e this
        exact this e
end Wo
end Go.Proofs.YtebdpdmkehfgfaaDoor
set_option linter.unusedVariables false
set_option linter.unusedSimpArgs false
namespace Go.Proofs.YtebdpdmkehfgfaaDoor
namespace Wo
theorem is_iff {k : Nat} (hk : k < 3) (s : B) : isW k s = true ↔ s ∈ words k 0 ∨ ∃ m, 0 < m ∧ m < 1000 ∧ (s ∈ words k m ∨ s ∈ words k (1000 * m)) := by
  constructor
  · intro h
    unfold isW at h
    rcases Bool.or_eq_true_iff.1 h with h | h
    · obtain ⟨n, e⟩ := Option.isSome_iff_exists.1 h
      obtain ⟨h1, h2⟩ := number_some e
      have hs : s ∈ words k n := by rw [h2]; exact List.mem_cons_self
      by_cases h0 : n = 0
      · exact .inl (h0 ▸ hs)
      · by_cases h3 : n < 1000
        · exact .inr ⟨n, by omega, h3, .inl hs⟩
        · by_cases hz : n % 1000 = 0
          · exact .inr ⟨n / 1000, by omega, by omega, .inr (by rw [show 1000 * (n / 1000) = n by omega]; exact hs)⟩
          · have l := congrArg List.length (words_split k (n := n) (by omega) hz)
            rw [h2, List.length_append] at l
            have l1 := (words_len k (n := n - n % 1000) (by omega)).1
            have l2 := (words_len k (n := n % 1000) (by omega)).1
            simp at l
            omega
    · rcases (show k = 0 ∨ k = 1 ∨ k = 2 by omega) with rfl | rfl | rfl
      · unfold part at h
        simp only [Bool.or_eq_true, beq_iff_eq] at h
        rcases h with rfl | rfl
        · exact .inr ⟨100, by decide, by decide, .inl (by decide +kernel)⟩
        · exact .inr ⟨1, by decide, by decide, .inr (by decide +kernel)⟩
      · cases h
      · unfold part at h
        simp only [Bool.or_eq_true, beq_iff_eq] at h
        rcases h with (((rfl | rfl) | rfl) | rfl) | rfl
        · exact .inr ⟨31, by decide, by decide, .inl (by decide +kernel)⟩
        · exact .inr ⟨31, by decide, by decide, .inr (by decide +kernel)⟩
        · exact .inr ⟨21, by decide, by decide, .inr (by decide +kernel)⟩
        · exact .inr ⟨101, by decide, by decide, .inl (by decide +kernel)⟩
        · exact .inr ⟨1, by decide, by decide, .inr (by decide +kernel)⟩
  · rintro (h | ⟨m, h0, h1, h | h⟩)
    · exact (words_is k hk (n := 0) (by omega) s h).1
    · exact (words_is k hk (n := m) (by omega) s h).1
    · exact (words_is k hk (n := 1000 * m) (by omega) s h).1
end Wo
end Go.Proofs.YtebdpdmkehfgfaaDoor
set_option linter.unusedVariables false
set_option linter.unusedSimpArgs false
namespace Go.Proofs.YtebdpdmkehfgfaaDoor
namespace Wo
/-- the letters with which number words begin -/
def firsts : Nat → B
  | 0 => [101, 102, 104, 110, 111, 115, 116, 122]
  | 1 => [97, 100, 101, 102, 104, 110, 115, 116, 118, 122]
  | _ => [99, 100, 109, 110, 111, 113, 115, 116, 117, 118, 121]
def hasH (s : B) : Bool := (List.range s.length).any fun i => hundert.isPrefixOf (s.drop i)
def asked (m : Nat) : Bool := !(99 < m && 1 < m % 100)
def both (k m : Nat) : List B := words k m ++ words k (1000 * m)
set_option maxRecDepth 100000 in
theorem short0 {m : Nat} (h : m < 1000) (h0 : 0 < m) : (both 0 m).all (fun s => hasH s || (both 0 (m / 100 * 100)).contains s || (both 0 (m / 100 * 100 + 1)).contains s || (both 0 (m % 100)).contains s) = true := by
  have k := below (p := fun m => m == 0 || (both 0 m).all (fun s => hasH s || (both 0 (m / 100 * 100)).contains s || (both 0 (m / 100 * 100 + 1)).contains s || (both 0 (m % 100)).contains s)) (N := 1000) (by decide +kernel) h
  rcases Bool.or_eq_true_iff.1 k with k | k
  · have := beq_iff_eq.1 k
    omega
  · exact k
set_option maxRecDepth 100000 in
theorem letters0 {m : Nat} (h : m < 1000) : (both 0 m).all (fun s => match s with | [] => false | c :: _ => (firsts 0).contains c) = true :=
  below (p := fun m => (both 0 m).all (fun s => match s with | [] => false | c :: _ => (firsts 0).contains c)) (N := 1000) (by decide +kernel) h
set_option maxRecDepth 100000 in
theorem short1 {m : Nat} (h : m < 1000) (h0 : 0 < m) : (both 1 m).all (fun s => hasH s || (both 1 (m / 100 * 100)).contains s || (both 1 (m / 100 * 100 + 1)).contains s || (both 1 (m % 100)).contains s) = true := by
  have k := below (p := fun m => m == 0 || (both 1 m).all (fun s => hasH s || (both 1 (m / 100 * 100)).contains s || (both 1 (m / 100 * 100 + 1)).contains s || (both 1 (m % 100)).contains s)) (N := 1000) (by decide +kernel) h
  rcases Bool.or_eq_true_iff.1 k with k | k
  · have := beq_iff_eq.1 k
    omega
  · exact k
set_option maxRecDepth 100000 in
theorem letters1 {m : Nat} (h : m < 1000) : (both 1 m).all (fun s => match s with | [] => false | c :: _ => (firsts 1).contains c) = true :=
  below (p := fun m => (both 1 m).all (fun s => match s with | [] => false | c :: _ => (firsts 1).contains c)) (N := 1000) (by decide +kernel) h
set_option maxRecDepth 100000 in
theorem short2 {m : Nat} (h : m < 1000) (h0 : 0 < m) : (both 2 m).all (fun s => hasH s || (both 2 (m / 100 * 100)).contains s || (both 2 (m / 100 * 100 + 1)).contains s || (both 2 (m % 100)).contains s) = true := by
  have k := below (p := fun m => m == 0 || (both 2 m).all (fun s => hasH s || (both 2 (m / 100 * 100)).contains s || (both 2 (m / 100 * 100 + 1)).contains s || (both 2 (m % 100)).contains s)) (N := 1000) (by decide +kernel) h
  rcases Bool.or_eq_true_iff.1 k with k | k
  · have := beq_iff_eq.1 k
    omega
  · exact k
set_option maxRecDepth 100000 in
theorem letters2 {m : Nat} (h : m < 1000) : (both 2 m).all (fun s => match s with | [] => false | c :: _ => (firsts 2).contains c) = true :=
  below (p := fun m => (both 2 m).all (fun s => match s with | [] => false | c :: _ => (firsts 2).contains c)) (N := 1000) (by decide +kernel) h
end Wo
end Go.Proofs.YtebdpdmkehfgfaaDoor
