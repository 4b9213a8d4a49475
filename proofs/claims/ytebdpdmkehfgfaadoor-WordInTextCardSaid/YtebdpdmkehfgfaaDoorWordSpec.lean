/- Numbers in words, as mathematics: what the three tongues say, and what is read back. (Made by a script from the program's tables: see NOTES.md.) -/
import Derived.Test.YtebdpdmkehfgfaaDoorBase
set_option linter.unusedVariables false
set_option linter.unusedSimpArgs false
namespace Go.Proofs.YtebdpdmkehfgfaaDoor
namespace Wo
abbrev B := List UInt8
def ones : Nat → List B
  | 0 => [[122, 101, 114, 111], [111, 110, 101], [116, 119, 111], [116, 104, 114, 101, 101], [102, 111, 117, 114], [102, 105, 118, 101], [115, 105, 120], [115, 101, 118, 101, 110], [101, 105, 103, 104, 116], [110, 105, 110, 101], [116, 101, 110], [101, 108, 101, 118, 101, 110], [116, 119, 101, 108, 118, 101], [116, 104, 105, 114, 116, 101, 101, 110], [102, 111, 117, 114, 116, 101, 101, 110], [102, 105, 102, 116, 101, 101, 110], [115, 105, 120, 116, 101, 101, 110], [115, 101, 118, 101, 110, 116, 101, 101, 110], [101, 105, 103, 104, 116, 101, 101, 110], [110, 105, 110, 101, 116, 101, 101, 110]]
  | 1 => [[110, 117, 108, 108], [101, 105, 110, 115], [122, 119, 101, 105], [100, 114, 101, 105], [118, 105, 101, 114], [102, 117, 101, 110, 102], [115, 101, 99, 104, 115], [115, 105, 101, 98, 101, 110], [97, 99, 104, 116], [110, 101, 117, 110], [122, 101, 104, 110], [101, 108, 102], [122, 119, 111, 101, 108, 102], [100, 114, 101, 105, 122, 101, 104, 110], [118, 105, 101, 114, 122, 101, 104, 110], [102, 117, 101, 110, 102, 122, 101, 104, 110], [115, 101, 99, 104, 122, 101, 104, 110], [115, 105, 101, 98, 122, 101, 104, 110], [97, 99, 104, 116, 122, 101, 104, 110], [110, 101, 117, 110, 122, 101, 104, 110]]
  | _ => [[99, 101, 114, 111], [117, 110, 111], [100, 111, 115], [116, 114, 101, 115], [99, 117, 97, 116, 114, 111], [99, 105, 110, 99, 111], [115, 101, 105, 115], [115, 105, 101, 116, 101], [111, 99, 104, 111], [110, 117, 101, 118, 101], [100, 105, 101, 122], [111, 110, 99, 101], [100, 111, 99, 101], [116, 114, 101, 99, 101], [99, 97, 116, 111, 114, 99, 101], [113, 117, 105, 110, 99, 101], [100, 105, 101, 99, 105, 115, 101, 105, 115], [100, 105, 101, 99, 105, 115, 105, 101, 116, 101], [100, 105, 101, 99, 105, 111, 99, 104, 111], [100, 105, 101, 99, 105, 110, 117, 101, 118, 101]]
def tens : Nat → List B
  | 0 => [[116, 119, 101, 110, 116, 121], [116, 104, 105, 114, 116, 121], [102, 111, 114, 116, 121], [102, 105, 102, 116, 121], [115, 105, 120, 116, 121], [115, 101, 118, 101, 110, 116, 121], [101, 105, 103, 104, 116, 121], [110, 105, 110, 101, 116, 121]]
  | 1 => [[122, 119, 97, 110, 122, 105, 103], [100, 114, 101, 105, 115, 115, 105, 103], [118, 105, 101, 114, 122, 105, 103], [102, 117, 101, 110, 102, 122, 105, 103], [115, 101, 99, 104, 122, 105, 103], [115, 105, 101, 98, 122, 105, 103], [97, 99, 104, 116, 122, 105, 103], [110, 101, 117, 110, 122, 105, 103]]
  | _ => [[118, 101, 105, 110, 116, 101], [116, 114, 101, 105, 110, 116, 97], [99, 117, 97, 114, 101, 110, 116, 97], [99, 105, 110, 99, 117, 101, 110, 116, 97], [115, 101, 115, 101, 110, 116, 97], [115, 101, 116, 101, 110, 116, 97], [111, 99, 104, 101, 110, 116, 97], [110, 111, 118, 101, 110, 116, 97]]
def hundreds : List B := [[99, 105, 101, 110, 116, 111], [100, 111, 115, 99, 105, 101, 110, 116, 111, 115], [116, 114, 101, 115, 99, 105, 101, 110, 116, 111, 115], [99, 117, 97, 116, 114, 111, 99, 105, 101, 110, 116, 111, 115], [113, 117, 105, 110, 105, 101, 110, 116, 111, 115], [115, 101, 105, 115, 99, 105, 101, 110, 116, 111, 115], [115, 101, 116, 101, 99, 105, 101, 110, 116, 111, 115], [111, 99, 104, 111, 99, 105, 101, 110, 116, 111, 115], [110, 111, 118, 101, 99, 105, 101, 110, 116, 111, 115]]
def hundred : B := [104, 117, 110, 100, 114, 101, 100]
def thousand : B := [116, 104, 111, 117, 115, 97, 110, 100]
def hundert : B := [104, 117, 110, 100, 101, 114, 116]
def tausend : B := [116, 97, 117, 115, 101, 110, 100]
def cien : B := [99, 105, 101, 110]
def mil : B := [109, 105, 108]
def und : B := [117, 110, 100]
def veinti : B := [118, 101, 105, 110, 116, 105]
def ein : B := [101, 105, 110]
def un : B := [117, 110]
def yy : B := [121]
def wordOf (k n : Nat) : B := if n < 20 then (ones k).getD n [] else (tens k).getD (n / 10 - 2) []
def idx (x : B) (l : List B) : Option Nat := l.findIdx? (· == x)
def simple (k : Nat) (s : B) : Int := match idx s (ones k) with
  | some i => i
  | none => match idx s (tens k) with
    | some i => 20 + 10 * (i : Int)
    | none => -1
def tao (t o : Int) : Int := if t < 20 ∨ t % 10 ≠ 0 ∨ o < 1 ∨ o > 9 then -1 else t + o
/-- what is before and behind the first sep -/
def cut (sep : B) : B → Option (B × B)
  | [] => if sep.isPrefixOf [] then some ([], []) else none
  | c :: r => if sep.isPrefixOf (c :: r) then some ([], (c :: r).drop sep.length) else (cut sep r).map fun x => (c :: x.1, x.2)
def cutPrefix (p s : B) : Option B := if p.isPrefixOf s then some (s.drop p.length) else none
def cutSuffix (p s : B) : Option B := if p.isSuffixOf s then some (s.take (s.length - p.length)) else none
def trim (p s : B) : B := (cutSuffix p s).getD s
def orNone (n m : Int) : Int := if n < 0 ∨ m < 0 then -1 else n + m
def guess (th : B) (alone : Int) (small : List B → Int) (l : List B) : Int := match idx th l with
  | none => small l
  | some i =>
    let q := if i > 0 then small (l.take i) else alone
    let r := if i + 1 < l.length then small (l.drop (i + 1)) else 0
    if q < 0 ∨ r < 0 then -1 else 1000 * q + r
-- English
def enS (n : Nat) : List B :=
  (if n / 100 > 0 then [wordOf 0 (n / 100), hundred] else []) ++
  (if n / 100 > 0 ∧ n % 100 = 0 then [] else if n % 100 < 20 ∨ n % 10 = 0 then [wordOf 0 (n % 100)] else [wordOf 0 (n % 100 - n % 10) ++ [45] ++ wordOf 0 (n % 10)])
def en (n : Nat) : List B := if n / 1000 > 0 then enS (n / 1000) ++ thousand :: (if n % 1000 = 0 then [] else enS (n % 1000)) else enS n
def enTail (n : Int) : List B → Int
  | [s] => orNone n (match cut [45] s with
    | some (t, o) => tao (simple 0 t) (simple 0 o)
    | none => simple 0 s)
  | _ => -1
def enSmall : List B → Int
  | a :: h :: rest => if h = hundred then (if rest = [] then 100 * simple 0 a else enTail (100 * simple 0 a) rest) else enTail 0 (a :: h :: rest)
  | l => enTail 0 l
-- German
def joined (n : Nat) : B := if n = 1 then trim [115] (wordOf 1 n) else wordOf 1 n
def deW (n : Nat) : B :=
  (if n / 100 > 0 then joined (n / 100) ++ hundert else []) ++
  (if n / 100 > 0 ∧ n % 100 = 0 then [] else if n % 100 < 20 ∨ n % 10 = 0 then wordOf 1 (n % 100) else joined (n % 10) ++ und ++ wordOf 1 (n % 100 - n % 10))
def deQ (q : Nat) : B := let w := deW q; if (ein ++ [115]).isSuffixOf w then trim [115] w else w
def de (n : Nat) : List B := if n < 1000 then [deW n] else (deQ (n / 1000) ++ tausend) :: (if n % 1000 > 0 then [deW (n % 1000)] else [])
def deOne (s : B) : Int := if s = ein then 1 else simple 1 s
def deTail (n : Int) (s : B) : Int := orNone n (match cut und s with
  | some (o, t) => tao (simple 1 t) (deOne o)
  | none => simple 1 s)
def deSmall : List B → Int
  | [s] => match cut hundert s with
    | some (h, rest) => if rest = [] then 100 * deOne h else deTail (100 * deOne h) rest
    | none => deTail 0 s
  | _ => -1
def deGuess (l : List B) : Int := match cutSuffix tausend (l.headD []) with
  | none => deSmall l
  | some q =>
    let n := if ein.isSuffixOf q then deSmall [q ++ [115]] else deSmall [q]
    let r := if l.length > 1 then deSmall (l.drop 1) else 0
    if n < 0 ∨ r < 0 then -1 else 1000 * n + r
-- Spanish
def esS (n : Nat) : List B := if n = 100 then [cien] else
  (if n / 100 > 0 then [hundreds.getD (n / 100 - 1) []] else []) ++
  (if n / 100 > 0 ∧ n % 100 = 0 then [] else if n % 100 < 20 ∨ n % 10 = 0 then [wordOf 2 (n % 100)] else if n % 100 / 10 = 2 then [veinti ++ wordOf 2 (n % 10)] else [wordOf 2 (n % 100 - n % 10), yy, wordOf 2 (n % 10)])
def esLast : List B → List B
  | [] => []
  | [s] => [if (un ++ [111]).isSuffixOf s then trim [111] s else s]
  | s :: l => s :: esLast l
def es (n : Nat) : List B := if n / 1000 > 0 then (if n / 1000 > 1 then esLast (esS (n / 1000)) else []) ++ mil :: (if n % 1000 = 0 then [] else esS (n % 1000)) else esS n
def esOne (s : B) : Int := if s = un then 1 else simple 2 s
def esTail (n : Int) : List B → Int
  | [] => n
  | [s] => let m := match cutPrefix veinti s with
      | some o => tao 20 (esOne o)
      | none => esOne s
    if m < 0 then -1 else n + m
  | [a, y, o] => if y = yy then (let m := tao (simple 2 a) (esOne o); if m < 0 then -1 else n + m) else -1
  | _ => -1
def esSmall : List B → Int
  | [] => -1
  | s :: l => if s = cien then esTail 100 l else match idx s hundreds with
    | some i => esTail (100 * ((i : Int) + 1)) l
    | none => esTail 0 (s :: l)
def words : Nat → Nat → List B
  | 0 => en
  | 1 => de
  | _ => es
def read : Nat → List B → Int
  | 0 => guess thousand (-1) enSmall
  | 1 => deGuess
  | _ => guess mil 1 esSmall

theorem below {p : Nat → Bool} {N : Nat} (h : (List.range N).all p = true) {n : Nat} (hn : n < N) : p n = true := List.all_eq_true.1 h n (List.mem_range.2 hn)
set_option maxRecDepth 100000 in
theorem en_small {n : Nat} (h : n < 1000) : enSmall (enS n) = n ∧ idx thousand (enS n) = none ∧ (enS n).length ≠ 0 ∧ (enS n).length ≤ 4 := by
  have k := below (p := fun n => decide (enSmall (enS n) = n ∧ idx thousand (enS n) = none ∧ (enS n).length ≠ 0 ∧ (enS n).length ≤ 4)) (N := 1000) (by decide +kernel) h
  exact of_decide_eq_true k
set_option maxRecDepth 100000 in
theorem es_small {n : Nat} (h : n < 1000) : esSmall (esS n) = n ∧ idx mil (esS n) = none ∧ (esS n).length ≠ 0 ∧ (esS n).length ≤ 4 ∧ esSmall (esLast (esS n)) = n ∧ idx mil (esLast (esS n)) = none ∧ (esLast (esS n)).length = (esS n).length := by
  have k := below (p := fun n => decide (esSmall (esS n) = n ∧ idx mil (esS n) = none ∧ (esS n).length ≠ 0 ∧ (esS n).length ≤ 4 ∧ esSmall (esLast (esS n)) = n ∧ idx mil (esLast (esS n)) = none ∧ (esLast (esS n)).length = (esS n).length)) (N := 1000) (by decide +kernel) h
  exact of_decide_eq_true k
set_option maxRecDepth 100000 in
theorem de_small {n : Nat} (h : n < 1000) : deSmall [deW n] = n ∧ cutSuffix tausend (deW n) = none ∧ (if ein.isSuffixOf (deQ n) then deSmall [deQ n ++ [115]] else deSmall [deQ n]) = n := by
  have k := below (p := fun n => decide (deSmall [deW n] = n ∧ cutSuffix tausend (deW n) = none ∧ (if ein.isSuffixOf (deQ n) then deSmall [deQ n ++ [115]] else deSmall [deQ n]) = n)) (N := 1000) (by decide +kernel) h
  exact of_decide_eq_true k
theorem idx_mid {x : B} {l r : List B} (h : idx x l = none) : idx x (l ++ x :: r) = some l.length := by
  unfold idx at *
  rw [List.findIdx?_append, h]
  simp [List.findIdx?_cons]
theorem guess_mid {th : B} {alone : Int} {small : List B → Int} {l r : List B} {q m : Nat} (h : idx th l = none) (hl : if l = [] then alone = q else small l = q) (hr : if r = [] then m = 0 else small r = m) : guess th alone small (l ++ th :: r) = 1000 * q + m := by
  unfold guess
  rw [idx_mid h]
  have e1 : (l ++ th :: r).take l.length = l := by simp
  have e2 : (l ++ th :: r).drop (l.length + 1) = r := by rw [← List.drop_drop]; simp
  have e3 : (if l.length > 0 then small ((l ++ th :: r).take l.length) else alone) = (q : Int) := by
    rw [e1]
    cases l with
    | nil => simpa using hl
    | cons a l => simpa using hl
  have e4 : (if l.length + 1 < (l ++ th :: r).length then small ((l ++ th :: r).drop (l.length + 1)) else 0) = (m : Int) := by
    rw [e2]
    cases r with
    | nil => simp at hr; simp [hr]
    | cons a r => simpa using hr
  dsimp only
  rw [e3, e4, if_neg (by omega)]
theorem en_back {n : Nat} (h : n < 1000000) : read 0 (words 0 n) = n := by
  show guess thousand (-1) enSmall (en n) = n
  unfold en
  by_cases h0 : n / 1000 > 0
  · rw [if_pos h0]
    have s := en_small (n := n / 1000) (by omega)
    have t := en_small (n := n % 1000) (by omega)
    have ne : enS (n / 1000) ≠ [] := fun e => s.2.2.1 (by rw [e]; rfl)
    have ne2 : enS (n % 1000) ≠ [] := fun e => t.2.2.1 (by rw [e]; rfl)
    rw [guess_mid (q := n / 1000) (m := n % 1000) s.2.1 (by rw [if_neg ne]; exact s.1) (by
      by_cases hz : n % 1000 = 0
      · rw [if_pos hz]; simpa using hz
      · rw [if_neg hz, if_neg ne2]; exact t.1)]
    omega
  · rw [if_neg h0]
    have s := en_small (n := n) (by omega)
    unfold guess
    rw [s.2.1]
    exact s.1
theorem es_back {n : Nat} (h : n < 1000000) : read 2 (words 2 n) = n := by
  show guess mil 1 esSmall (es n) = n
  unfold es
  by_cases h0 : n / 1000 > 0
  · rw [if_pos h0]
    have s := es_small (n := n / 1000) (by omega)
    have t := es_small (n := n % 1000) (by omega)
    have ne : esLast (esS (n / 1000)) ≠ [] := fun e => s.2.2.1 (by rw [← s.2.2.2.2.2.2, e]; rfl)
    have ne2 : esS (n % 1000) ≠ [] := fun e => t.2.2.1 (by rw [e]; rfl)
    have hr : if (if n % 1000 = 0 then [] else esS (n % 1000)) = [] then n % 1000 = 0 else esSmall (if n % 1000 = 0 then [] else esS (n % 1000)) = ((n % 1000 : Nat) : Int) := by
      by_cases hz : n % 1000 = 0
      · rw [if_pos hz]; simpa using hz
      · rw [if_neg hz, if_neg ne2]; exact t.1
    by_cases h1 : n / 1000 > 1
    · rw [if_pos h1, guess_mid (q := n / 1000) (m := n % 1000) s.2.2.2.2.2.1 (by rw [if_neg ne]; exact s.2.2.2.2.1) hr]
      omega
    · rw [if_neg h1, guess_mid (q := n / 1000) (m := n % 1000) rfl (by rw [if_pos rfl]; omega) hr]
      omega
  · rw [if_neg h0]
    have s := es_small (n := n) (by omega)
    unfold guess
    rw [s.2.1]
    exact s.1
theorem cutSuffix_app (a p : B) : cutSuffix p (a ++ p) = some a := by
  unfold cutSuffix
  rw [if_pos (by simp)]
  simp
theorem de_back {n : Nat} (h : n < 1000000) : read 1 (words 1 n) = n := by
  show deGuess (de n) = n
  unfold de
  by_cases h0 : n < 1000
  · rw [if_pos h0]
    have s := de_small h0
    unfold deGuess
    rw [show ([deW n] : List B).headD [] = deW n from rfl, s.2.1]
    exact s.1
  · rw [if_neg h0]
    have s := de_small (n := n / 1000) (by omega)
    have t := de_small (n := n % 1000) (by omega)
    unfold deGuess
    rw [List.headD_cons, cutSuffix_app]
    dsimp only
    rw [s.2.2]
    by_cases hz : n % 1000 > 0
    · rw [if_pos hz]
      have e : (if ((deQ (n / 1000) ++ tausend) :: [deW (n % 1000)]).length > 1 then deSmall (((deQ (n / 1000) ++ tausend) :: [deW (n % 1000)]).drop 1) else 0) = ((n % 1000 : Nat) : Int) := by
        rw [if_pos (by simp)]
        exact t.1
      rw [e, if_neg (by omega)]
      omega
    · rw [if_neg hz]
      have e : (if ((deQ (n / 1000) ++ tausend) :: ([] : List B)).length > 1 then deSmall (((deQ (n / 1000) ++ tausend) :: ([] : List B)).drop 1) else 0) = 0 := by
        rw [if_neg (by simp)]
      rw [e, if_neg (by omega)]
      omega
end Wo
end Go.Proofs.YtebdpdmkehfgfaaDoor
