/-
  No cell of these rows narrows 'for every input' (looked for: loops, veiled, ifaces, maps, wideKeys, modest, calm, conditions, laid).
  DERIVED. THE GIVEN ROWS OF THIS SEAT. 8 by the template 'for every input the law returns true; each argument reads behind the call as it read before'; 0 by the template 'total and deterministic' (their statements: YthjolojpjajppaaGreatTotals.lean).
  GIVEN WITH THE SEED: the statements are not yours to turn. If you find one false, say at which input.
  Laid BY PROGRAM, IN A SANDBOX (cutbox-rows.mjs): the forced cells as the released guide's own fill.sh prints them over the translation 0265ee8a6b14cecf… (all of the seat's roots in one cut). By AI agents, Wed Nov 11 2026. No macro, syntax, notation, axiom, sorry.
-/
import Derived.Test.YthjolojpjajppaaGreatChecked
import GoSem.Claim
import GoSem.ClaimJoined
import GoSem.ClaimMapViews
import Derived.JoinedTies
import Derived.KernelRfl
namespace Go.Proofs.YthjolojpjajppaaGreat
/- THE CELL 'sum', in the pinned program and in every row, IS THE sha256 OF THE DUMP (.gsa) THAT YthjolojpjajppaaGreatProg.lean LOADS. Nothing in Lean hashes anything: it is a label: what it is worth is what the hold of that sum in a sandbox is worth. -/
noncomputable def Tryz.pinned : Pinned := { name := "ythjolojpjajppaagreat", sum := "0265ee8a6b14cecf6c2f9a6ebd88def9eaf423f844df55cc63d43551a15b7f21", checked := Tryz.checked }
namespace Rows
def none {H : Type} : Left H := { results := [], args := [] }

/-- 'newswirelaw10.LabelMatchesReference': WHATEVER THE INPUT: true; the input reads as it did. -/
def labelMatchesReferenceSpec : ChangeSpec := { name := "labelMatchesReference", fn := fun _ => fun
  | [d1, d2, d3, d4, d5, d6] => { results := [.lit (.bool true)], args := [d1, d2, d3, d4, d5, d6] }
  | _ => none }
def labelMatchesReferenceRow : OpenClaim := { program := "ythjolojpjajppaagreat", sum := "0265ee8a6b14cecf6c2f9a6ebd88def9eaf423f844df55cc63d43551a15b7f21", func := "newswire/newswirelaw10.LabelMatchesReference", spec := "labelMatchesReference", unfollowed := true, recurses := true, apart := false }
def LabelMatchesReferenceSaid : Prop := labelMatchesReferenceRow.holds Tryz.pinned (OpenSpec.ofChange labelMatchesReferenceSpec)

/-- ITS FALSE NEIGHBOUR: 'it returns false'. Refute it at one input. -/
def labelMatchesReferenceWrong : ChangeSpec := { name := "labelMatchesReference", fn := fun _ => fun
  | [d1, d2, d3, d4, d5, d6] => { results := [.lit (.bool false)], args := [d1, d2, d3, d4, d5, d6] }
  | _ => none }
def LabelMatchesReferenceWrongFalsely : Prop := labelMatchesReferenceRow.holds Tryz.pinned (OpenSpec.ofChange labelMatchesReferenceWrong)

/-- 'newswirelaw10.LabelCode': WHATEVER THE INPUT: true; the input reads as it did. -/
def labelCodeSpec : ChangeSpec := { name := "labelCode", fn := fun _ => fun
  | [d1, d2, d3, d4, d5, d6] => { results := [.lit (.bool true)], args := [d1, d2, d3, d4, d5, d6] }
  | _ => none }
def labelCodeRow : OpenClaim := { program := "ythjolojpjajppaagreat", sum := "0265ee8a6b14cecf6c2f9a6ebd88def9eaf423f844df55cc63d43551a15b7f21", func := "newswire/newswirelaw10.LabelCode", spec := "labelCode", unfollowed := true, recurses := true, apart := false }
def LabelCodeSaid : Prop := labelCodeRow.holds Tryz.pinned (OpenSpec.ofChange labelCodeSpec)

/-- ITS FALSE NEIGHBOUR: 'it returns false'. Refute it at one input. -/
def labelCodeWrong : ChangeSpec := { name := "labelCode", fn := fun _ => fun
  | [d1, d2, d3, d4, d5, d6] => { results := [.lit (.bool false)], args := [d1, d2, d3, d4, d5, d6] }
  | _ => none }
def LabelCodeWrongFalsely : Prop := labelCodeRow.holds Tryz.pinned (OpenSpec.ofChange labelCodeWrong)

/-- 'newswirelaw10.LabelLattice': WHATEVER THE INPUT: true; the input reads as it did. -/
def labelLatticeSpec : ChangeSpec := { name := "labelLattice", fn := fun _ => fun
  | [d1, d2, d3] => { results := [.lit (.bool true)], args := [d1, d2, d3] }
  | _ => none }
def labelLatticeRow : OpenClaim := { program := "ythjolojpjajppaagreat", sum := "0265ee8a6b14cecf6c2f9a6ebd88def9eaf423f844df55cc63d43551a15b7f21", func := "newswire/newswirelaw10.LabelLattice", spec := "labelLattice", unfollowed := true, recurses := true, apart := false }
def LabelLatticeSaid : Prop := labelLatticeRow.holds Tryz.pinned (OpenSpec.ofChange labelLatticeSpec)

/-- ITS FALSE NEIGHBOUR: 'it returns false'. Refute it at one input. -/
def labelLatticeWrong : ChangeSpec := { name := "labelLattice", fn := fun _ => fun
  | [d1, d2, d3] => { results := [.lit (.bool false)], args := [d1, d2, d3] }
  | _ => none }
def LabelLatticeWrongFalsely : Prop := labelLatticeRow.holds Tryz.pinned (OpenSpec.ofChange labelLatticeWrong)

/-- 'newswirelaw10.LabelJoins': WHATEVER THE INPUT: true; the input reads as it did. -/
def labelJoinsSpec : ChangeSpec := { name := "labelJoins", fn := fun _ => fun
  | [d1, d2, d3, d4, d5] => { results := [.lit (.bool true)], args := [d1, d2, d3, d4, d5] }
  | _ => none }
def labelJoinsRow : OpenClaim := { program := "ythjolojpjajppaagreat", sum := "0265ee8a6b14cecf6c2f9a6ebd88def9eaf423f844df55cc63d43551a15b7f21", func := "newswire/newswirelaw10.LabelJoins", spec := "labelJoins", unfollowed := true, recurses := true, apart := false }
def LabelJoinsSaid : Prop := labelJoinsRow.holds Tryz.pinned (OpenSpec.ofChange labelJoinsSpec)

/-- ITS FALSE NEIGHBOUR: 'it returns false'. Refute it at one input. -/
def labelJoinsWrong : ChangeSpec := { name := "labelJoins", fn := fun _ => fun
  | [d1, d2, d3, d4, d5] => { results := [.lit (.bool false)], args := [d1, d2, d3, d4, d5] }
  | _ => none }
def LabelJoinsWrongFalsely : Prop := labelJoinsRow.holds Tryz.pinned (OpenSpec.ofChange labelJoinsWrong)

/-- 'newswirelaw10.LabelSeparates': WHATEVER THE INPUT: true; the input reads as it did. -/
def labelSeparatesSpec : ChangeSpec := { name := "labelSeparates", fn := fun _ => fun
  | [d1, d2] => { results := [.lit (.bool true)], args := [d1, d2] }
  | _ => none }
def labelSeparatesRow : OpenClaim := { program := "ythjolojpjajppaagreat", sum := "0265ee8a6b14cecf6c2f9a6ebd88def9eaf423f844df55cc63d43551a15b7f21", func := "newswire/newswirelaw10.LabelSeparates", spec := "labelSeparates", unfollowed := true, recurses := true, apart := false }
def LabelSeparatesSaid : Prop := labelSeparatesRow.holds Tryz.pinned (OpenSpec.ofChange labelSeparatesSpec)

/-- ITS FALSE NEIGHBOUR: 'it returns false'. Refute it at one input. -/
def labelSeparatesWrong : ChangeSpec := { name := "labelSeparates", fn := fun _ => fun
  | [d1, d2] => { results := [.lit (.bool false)], args := [d1, d2] }
  | _ => none }
def LabelSeparatesWrongFalsely : Prop := labelSeparatesRow.holds Tryz.pinned (OpenSpec.ofChange labelSeparatesWrong)

/-- 'newswirelaw10.LabelClocks': WHATEVER THE INPUT: true; the input reads as it did. -/
def labelClocksSpec : ChangeSpec := { name := "labelClocks", fn := fun _ => fun
  | [d1, d2, d3, d4, d5] => { results := [.lit (.bool true)], args := [d1, d2, d3, d4, d5] }
  | _ => none }
def labelClocksRow : OpenClaim := { program := "ythjolojpjajppaagreat", sum := "0265ee8a6b14cecf6c2f9a6ebd88def9eaf423f844df55cc63d43551a15b7f21", func := "newswire/newswirelaw10.LabelClocks", spec := "labelClocks", unfollowed := true, recurses := true, apart := false }
def LabelClocksSaid : Prop := labelClocksRow.holds Tryz.pinned (OpenSpec.ofChange labelClocksSpec)

/-- ITS FALSE NEIGHBOUR: 'it returns false'. Refute it at one input. -/
def labelClocksWrong : ChangeSpec := { name := "labelClocks", fn := fun _ => fun
  | [d1, d2, d3, d4, d5] => { results := [.lit (.bool false)], args := [d1, d2, d3, d4, d5] }
  | _ => none }
def LabelClocksWrongFalsely : Prop := labelClocksRow.holds Tryz.pinned (OpenSpec.ofChange labelClocksWrong)

/-- 'newswirelaw10.LabelOnceOpen': WHATEVER THE INPUT: true; the input reads as it did. -/
def labelOnceOpenSpec : ChangeSpec := { name := "labelOnceOpen", fn := fun _ => fun
  | [d1, d2, d3, d4, d5] => { results := [.lit (.bool true)], args := [d1, d2, d3, d4, d5] }
  | _ => none }
def labelOnceOpenRow : OpenClaim := { program := "ythjolojpjajppaagreat", sum := "0265ee8a6b14cecf6c2f9a6ebd88def9eaf423f844df55cc63d43551a15b7f21", func := "newswire/newswirelaw10.LabelOnceOpen", spec := "labelOnceOpen", unfollowed := true, recurses := true, apart := false }
def LabelOnceOpenSaid : Prop := labelOnceOpenRow.holds Tryz.pinned (OpenSpec.ofChange labelOnceOpenSpec)

/-- ITS FALSE NEIGHBOUR: 'it returns false'. Refute it at one input. -/
def labelOnceOpenWrong : ChangeSpec := { name := "labelOnceOpen", fn := fun _ => fun
  | [d1, d2, d3, d4, d5] => { results := [.lit (.bool false)], args := [d1, d2, d3, d4, d5] }
  | _ => none }
def LabelOnceOpenWrongFalsely : Prop := labelOnceOpenRow.holds Tryz.pinned (OpenSpec.ofChange labelOnceOpenWrong)

/-- 'newswirelaw10.LabelKeys': WHATEVER THE INPUT: true; the input reads as it did. -/
def labelKeysSpec : ChangeSpec := { name := "labelKeys", fn := fun _ => fun
  | [d1, d2, d3] => { results := [.lit (.bool true)], args := [d1, d2, d3] }
  | _ => none }
def labelKeysRow : OpenClaim := { program := "ythjolojpjajppaagreat", sum := "0265ee8a6b14cecf6c2f9a6ebd88def9eaf423f844df55cc63d43551a15b7f21", func := "newswire/newswirelaw10.LabelKeys", spec := "labelKeys", unfollowed := true, recurses := true, apart := false }
def LabelKeysSaid : Prop := labelKeysRow.holds Tryz.pinned (OpenSpec.ofChange labelKeysSpec)

/-- ITS FALSE NEIGHBOUR: 'it returns false'. Refute it at one input. -/
def labelKeysWrong : ChangeSpec := { name := "labelKeys", fn := fun _ => fun
  | [d1, d2, d3] => { results := [.lit (.bool false)], args := [d1, d2, d3] }
  | _ => none }
def LabelKeysWrongFalsely : Prop := labelKeysRow.holds Tryz.pinned (OpenSpec.ofChange labelKeysWrong)

/- THE SECOND FORM. 'bulk': how many values and letters a reading holds, each counted each time it is reached (what is shared counts as often as it is met; a slice's spare places count too). A statement '..UptoSaid' is the law's where the arguments, and the package variables that the reading takes, are together of bulk at most 1048576: NARROWER than '..Said'. Prove '..Said' where nothing that the law and all that it calls make is longer than what came in: it says more and counts as full. Else prove '..UptoSaid'. A law counts once. -/
mutual
def uptoBulk {H : Type} : DataW H → Nat
  | .lit (.string bytes) => bytes.length + 1
  | .lit _ => 1
  | .nil => 1
  | .ptr d => uptoBulk d + 1
  | .slice elems spare => uptoBulkAll elems + uptoBulkAll spare + 1
  | .agg parts => uptoBulkAll parts + 1
  | .iface _ d => uptoBulk d + 1
  | .map entries => uptoBulkEntries entries + 1
  | .held _ => 1
def uptoBulkAll {H : Type} : List (DataW H) → Nat
  | [] => 0
  | d :: r => uptoBulk d + uptoBulkAll r
def uptoBulkEntries {H : Type} : List (Lit × DataW H) → Nat
  | [] => 0
  | x :: r => uptoBulkEntry x + uptoBulkEntries r
def uptoBulkEntry {H : Type} : Lit × DataW H → Nat
  | (.string bytes, d) => bytes.length + uptoBulk d + 1
  | (_, d) => uptoBulk d + 1
 end
def uptoSmall : (H : Type) → List (DataW H) → Bool := fun _ ds => decide (uptoBulkAll ds ≤ 1048576)
def OpenSpec.upto (s : _root_.Go.ChangeSpec) : _root_.Go.OpenSpec := { _root_.Go.OpenSpec.ofChange s with cond := some uptoSmall }

/-- 'newswirelaw10.LabelMatchesReference', WHERE WHAT IT READS IS OF BULK AT MOST 1048576: true; the input reads as it did. -/
def labelMatchesReferenceUptoRow : OpenClaim := { program := "ythjolojpjajppaagreat", sum := "0265ee8a6b14cecf6c2f9a6ebd88def9eaf423f844df55cc63d43551a15b7f21", func := "newswire/newswirelaw10.LabelMatchesReference", spec := "labelMatchesReference", unfollowed := true, recurses := true, apart := false, narrowed := true }
def LabelMatchesReferenceUptoSaid : Prop := labelMatchesReferenceUptoRow.holds Tryz.pinned (OpenSpec.upto labelMatchesReferenceSpec)

/-- 'newswirelaw10.LabelCode', WHERE WHAT IT READS IS OF BULK AT MOST 1048576: true; the input reads as it did. -/
def labelCodeUptoRow : OpenClaim := { program := "ythjolojpjajppaagreat", sum := "0265ee8a6b14cecf6c2f9a6ebd88def9eaf423f844df55cc63d43551a15b7f21", func := "newswire/newswirelaw10.LabelCode", spec := "labelCode", unfollowed := true, recurses := true, apart := false, narrowed := true }
def LabelCodeUptoSaid : Prop := labelCodeUptoRow.holds Tryz.pinned (OpenSpec.upto labelCodeSpec)

/-- 'newswirelaw10.LabelLattice', WHERE WHAT IT READS IS OF BULK AT MOST 1048576: true; the input reads as it did. -/
def labelLatticeUptoRow : OpenClaim := { program := "ythjolojpjajppaagreat", sum := "0265ee8a6b14cecf6c2f9a6ebd88def9eaf423f844df55cc63d43551a15b7f21", func := "newswire/newswirelaw10.LabelLattice", spec := "labelLattice", unfollowed := true, recurses := true, apart := false, narrowed := true }
def LabelLatticeUptoSaid : Prop := labelLatticeUptoRow.holds Tryz.pinned (OpenSpec.upto labelLatticeSpec)

/-- 'newswirelaw10.LabelJoins', WHERE WHAT IT READS IS OF BULK AT MOST 1048576: true; the input reads as it did. -/
def labelJoinsUptoRow : OpenClaim := { program := "ythjolojpjajppaagreat", sum := "0265ee8a6b14cecf6c2f9a6ebd88def9eaf423f844df55cc63d43551a15b7f21", func := "newswire/newswirelaw10.LabelJoins", spec := "labelJoins", unfollowed := true, recurses := true, apart := false, narrowed := true }
def LabelJoinsUptoSaid : Prop := labelJoinsUptoRow.holds Tryz.pinned (OpenSpec.upto labelJoinsSpec)

/-- 'newswirelaw10.LabelSeparates', WHERE WHAT IT READS IS OF BULK AT MOST 1048576: true; the input reads as it did. -/
def labelSeparatesUptoRow : OpenClaim := { program := "ythjolojpjajppaagreat", sum := "0265ee8a6b14cecf6c2f9a6ebd88def9eaf423f844df55cc63d43551a15b7f21", func := "newswire/newswirelaw10.LabelSeparates", spec := "labelSeparates", unfollowed := true, recurses := true, apart := false, narrowed := true }
def LabelSeparatesUptoSaid : Prop := labelSeparatesUptoRow.holds Tryz.pinned (OpenSpec.upto labelSeparatesSpec)

/-- 'newswirelaw10.LabelClocks', WHERE WHAT IT READS IS OF BULK AT MOST 1048576: true; the input reads as it did. -/
def labelClocksUptoRow : OpenClaim := { program := "ythjolojpjajppaagreat", sum := "0265ee8a6b14cecf6c2f9a6ebd88def9eaf423f844df55cc63d43551a15b7f21", func := "newswire/newswirelaw10.LabelClocks", spec := "labelClocks", unfollowed := true, recurses := true, apart := false, narrowed := true }
def LabelClocksUptoSaid : Prop := labelClocksUptoRow.holds Tryz.pinned (OpenSpec.upto labelClocksSpec)

/-- 'newswirelaw10.LabelOnceOpen', WHERE WHAT IT READS IS OF BULK AT MOST 1048576: true; the input reads as it did. -/
def labelOnceOpenUptoRow : OpenClaim := { program := "ythjolojpjajppaagreat", sum := "0265ee8a6b14cecf6c2f9a6ebd88def9eaf423f844df55cc63d43551a15b7f21", func := "newswire/newswirelaw10.LabelOnceOpen", spec := "labelOnceOpen", unfollowed := true, recurses := true, apart := false, narrowed := true }
def LabelOnceOpenUptoSaid : Prop := labelOnceOpenUptoRow.holds Tryz.pinned (OpenSpec.upto labelOnceOpenSpec)

/-- 'newswirelaw10.LabelKeys', WHERE WHAT IT READS IS OF BULK AT MOST 1048576: true; the input reads as it did. -/
def labelKeysUptoRow : OpenClaim := { program := "ythjolojpjajppaagreat", sum := "0265ee8a6b14cecf6c2f9a6ebd88def9eaf423f844df55cc63d43551a15b7f21", func := "newswire/newswirelaw10.LabelKeys", spec := "labelKeys", unfollowed := true, recurses := true, apart := false, narrowed := true }
def LabelKeysUptoSaid : Prop := labelKeysUptoRow.holds Tryz.pinned (OpenSpec.upto labelKeysSpec)

end Rows
end Go.Proofs.YthjolojpjajppaaGreat
