/- Number words: the reference's short cuts leave none out. -/
import Derived.Test.YtebdpdmkehfgfaaDoorWordIs
set_option linter.unusedVariables false
set_option linter.unusedSimpArgs false
namespace Go.Proofs.YtebdpdmkehfgfaaDoor
namespace Wo
/-- the letters with which number words begin -/
def firsts : Nat → B
  | 0 => [101, 102, 104, 110, 111, 115, 116, 122]
  | 1 => [97, 100, 101, 102, 104, 110, 115, 116, 118, 122]
  | _ => [99, 100, 109, 110, 111, 113, 115, 116, 117, 118, 121]
def hasH (s : B) : Bool := (List.range s.length).any fun i => hundert.isPrefixOf (s.drop i)
def asked (m : Nat) : Bool := !(99 < m && 1 < m % 100)
def both (k m : Nat) : List B := words k m ++ words k (1000 * m)
set_option maxRecDepth 100000 in
theorem short0 {m : Nat} (h : m < 1000) (h0 : 0 < m) : (both 0 m).all (fun s => hasH s || (both 0 (m / 100 * 100)).contains s || (both 0 (m / 100 * 100 + 1)).contains s || (both 0 (m % 100)).contains s) = true := by
  have k := below (p := fun m => m == 0 || (both 0 m).all (fun s => hasH s || (both 0 (m / 100 * 100)).contains s || (both 0 (m / 100 * 100 + 1)).contains s || (both 0 (m % 100)).contains s)) (N := 1000) (by decide +kernel) h
  rcases Bool.or_eq_true_iff.1 k with k | k
  · have := beq_iff_eq.1 k
    omega
  · exact k
set_option maxRecDepth 100000 in
theorem letters0 {m : Nat} (h : m < 1000) : (both 0 m).all (fun s => match s with | [] => false | c :: _ => (firsts 0).contains c) = true :=
  below (p := fun m => (both 0 m).all (fun s => match s with | [] => false | c :: _ => (firsts 0).contains c)) (N := 1000) (by decide +kernel) h
set_option maxRecDepth 100000 in
theorem short1 {m : Nat} (h : m < 1000) (h0 : 0 < m) : (both 1 m).all (fun s => hasH s || (both 1 (m / 100 * 100)).contains s || (both 1 (m / 100 * 100 + 1)).contains s || (both 1 (m % 100)).contains s) = true := by
  have k := below (p := fun m => m == 0 || (both 1 m).all (fun s => hasH s || (both 1 (m / 100 * 100)).contains s || (both 1 (m / 100 * 100 + 1)).contains s || (both 1 (m % 100)).contains s)) (N := 1000) (by decide +kernel) h
  rcases Bool.or_eq_true_iff.1 k with k | k
  · have := beq_iff_eq.1 k
    omega
  · exact k
set_option maxRecDepth 100000 in
theorem letters1 {m : Nat} (h : m < 1000) : (both 1 m).all (fun s => match s with | [] => false | c :: _ => (firsts 1).contains c) = true :=
  below (p := fun m => (both 1 m).all (fun s => match s with | [] => false | c :: _ => (firsts 1).contains c)) (N := 1000) (by decide +kernel) h
set_option maxRecDepth 100000 in
theorem short2 {m : Nat} (h : m < 1000) (h0 : 0 < m) : (both 2 m).all (fun s => hasH s || (both 2 (m / 100 * 100)).contains s || (both 2 (m / 100 * 100 + 1)).contains s || (both 2 (m % 100)).contains s) = true := by
  have k := below (p := fun m => m == 0 || (both 2 m).all (fun s => hasH s || (both 2 (m / 100 * 100)).contains s || (both 2 (m / 100 * 100 + 1)).contains s || (both 2 (m % 100)).contains s)) (N := 1000) (by decide +kernel) h
  rcases Bool.or_eq_true_iff.1 k with k | k
  · have := beq_iff_eq.1 k
    omega
  · exact k
set_option maxRecDepth 100000 in
theorem letters2 {m : Nat} (h : m < 1000) : (both 2 m).all (fun s => match s with | [] => false | c :: _ => (firsts 2).contains c) = true :=
  below (p := fun m => (both 2 m).all (fun s => match s with | [] => false | c :: _ => (firsts 2).contains c)) (N := 1000) (by decide +kernel) h
end Wo
end Go.Proofs.YtebdpdmkehfgfaaDoor
