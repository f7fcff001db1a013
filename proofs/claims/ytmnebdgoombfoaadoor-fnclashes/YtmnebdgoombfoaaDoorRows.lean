/-
  NARROWER THAN 'FOR EVERY INPUT', by the rows' own cells (each row's printed sentence says how): FnMixes: laid · FnClashes: laid · FnExactFeedMix: laid · FnExactDigestOf: laid · FnExactListDigest: laid · FnExactClashOf: laid.
  DERIVED. THE GIVEN ROWS OF THIS SEAT. 6 by the template 'for every input the law returns true; each argument reads behind the call as it read before'; 0 by the template 'total and deterministic' (their statements: YtmnebdgoombfoaaDoorTotals.lean).
  GIVEN WITH THE SEED: the statements are not yours to turn. If you find one false, say at which input.
  Laid BY PROGRAM, IN A SANDBOX (cutbox-rows.mjs): the forced cells as the released guide's own fill.sh prints them over the translation c2fdc56cf4f1f310… (all of the seat's roots in one cut). By AI agents, Wed Nov 11 2026. No macro, syntax, notation, axiom, sorry.
-/
import Derived.Test.YtmnebdgoombfoaaDoorChecked
import GoSem.Claim
import GoSem.ClaimJoined
import GoSem.ClaimMapViews
import Derived.JoinedTies
import Derived.KernelRfl
namespace Go.Proofs.YtmnebdgoombfoaaDoor
/- THE CELL 'sum', in the pinned program and in every row, IS THE sha256 OF THE DUMP (.gsa) THAT YtmnebdgoombfoaaDoorProg.lean LOADS. Nothing in Lean hashes anything: it is a label: what it is worth is what the hold of that sum in a sandbox is worth. -/
noncomputable def Tryd.pinned : Pinned := { name := "ytmnebdgoombfoaadoor", sum := "c2fdc56cf4f1f31077c45f52eec415b29cd25ad0f339abaa1d992df39dbf7306", checked := Tryd.checked }
namespace Rows
def none {H : Type} : Left H := { results := [], args := [] }

/- WHAT THE LISTED PACKAGE-LEVEL VARIABLES READ AS WHEN THE CALL BEGINS. Each datum BY PROGRAM (the guide's laid-datum.mjs) off the statement by which the dump's own 'gosem.cut.vars' lays the variable. In a bare row this is a premise. The card (YtmnebdgoombfoaaDoorCards.lean) ties it to the program's text. -/
def laid_loop_example_g00537_impl_pieceWeights {H : Type} : DataW H := .agg [.lit (.int .i64 8), .lit (.int .i64 7), .lit (.int .i64 6), .lit (.int .i64 5), .lit (.int .i64 4), .lit (.int .i64 3), .lit (.int .i64 2), .lit (.int .i64 1)]

/-- 'laws.FnMixes': WHATEVER THE INPUT: true; the input reads as it did. -/
def fnMixesSpec : ChangeSpec := { name := "fnMixes", vars := ["loop.example/g00537/impl.pieceWeights"], fn := fun _ => fun
  | [d1, d2, g1] => { results := [.lit (.bool true)], args := [d1, d2], vars := [g1] }
  | _ => none }
def fnMixesRow : OpenClaim := { program := "ytmnebdgoombfoaadoor", sum := "c2fdc56cf4f1f31077c45f52eec415b29cd25ad0f339abaa1d992df39dbf7306", func := "loop.example/g00537/laws.FnMixes", spec := "fnMixes", named := ["loop.example/g00537/impl.pieceWeights"], apart := false, laid := [("loop.example/g00537/impl.pieceWeights", laid_loop_example_g00537_impl_pieceWeights)] }
def FnMixesSaid : Prop := fnMixesRow.holds Tryd.pinned (OpenSpec.ofChange fnMixesSpec)

/-- ITS FALSE NEIGHBOUR: 'it returns false'. Refute it at one input. -/
def fnMixesWrong : ChangeSpec := { name := "fnMixes", vars := ["loop.example/g00537/impl.pieceWeights"], fn := fun _ => fun
  | [d1, d2, g1] => { results := [.lit (.bool false)], args := [d1, d2], vars := [g1] }
  | _ => none }
def FnMixesWrongFalsely : Prop := fnMixesRow.holds Tryd.pinned (OpenSpec.ofChange fnMixesWrong)

/-- 'laws.FnClashes': WHATEVER THE INPUT: true; the input reads as it did. -/
def fnClashesSpec : ChangeSpec := { name := "fnClashes", vars := ["loop.example/g00537/impl.pieceWeights"], fn := fun _ => fun
  | [d1, d2, g1] => { results := [.lit (.bool true)], args := [d1, d2], vars := [g1] }
  | _ => none }
def fnClashesRow : OpenClaim := { program := "ytmnebdgoombfoaadoor", sum := "c2fdc56cf4f1f31077c45f52eec415b29cd25ad0f339abaa1d992df39dbf7306", func := "loop.example/g00537/laws.FnClashes", spec := "fnClashes", named := ["loop.example/g00537/impl.pieceWeights"], apart := false, laid := [("loop.example/g00537/impl.pieceWeights", laid_loop_example_g00537_impl_pieceWeights)] }
def FnClashesSaid : Prop := fnClashesRow.holds Tryd.pinned (OpenSpec.ofChange fnClashesSpec)

/-- ITS FALSE NEIGHBOUR: 'it returns false'. Refute it at one input. -/
def fnClashesWrong : ChangeSpec := { name := "fnClashes", vars := ["loop.example/g00537/impl.pieceWeights"], fn := fun _ => fun
  | [d1, d2, g1] => { results := [.lit (.bool false)], args := [d1, d2], vars := [g1] }
  | _ => none }
def FnClashesWrongFalsely : Prop := fnClashesRow.holds Tryd.pinned (OpenSpec.ofChange fnClashesWrong)

/-- 'laws.FnExactFeedMix': WHATEVER THE INPUT: true; the input reads as it did. -/
def fnExactFeedMixSpec : ChangeSpec := { name := "fnExactFeedMix", vars := ["loop.example/g00537/impl.pieceWeights"], fn := fun _ => fun
  | [d1, d2, g1] => { results := [.lit (.bool true)], args := [d1, d2], vars := [g1] }
  | _ => none }
def fnExactFeedMixRow : OpenClaim := { program := "ytmnebdgoombfoaadoor", sum := "c2fdc56cf4f1f31077c45f52eec415b29cd25ad0f339abaa1d992df39dbf7306", func := "loop.example/g00537/laws.FnExactFeedMix", spec := "fnExactFeedMix", named := ["loop.example/g00537/impl.pieceWeights"], apart := false, laid := [("loop.example/g00537/impl.pieceWeights", laid_loop_example_g00537_impl_pieceWeights)] }
def FnExactFeedMixSaid : Prop := fnExactFeedMixRow.holds Tryd.pinned (OpenSpec.ofChange fnExactFeedMixSpec)

/-- ITS FALSE NEIGHBOUR: 'it returns false'. Refute it at one input. -/
def fnExactFeedMixWrong : ChangeSpec := { name := "fnExactFeedMix", vars := ["loop.example/g00537/impl.pieceWeights"], fn := fun _ => fun
  | [d1, d2, g1] => { results := [.lit (.bool false)], args := [d1, d2], vars := [g1] }
  | _ => none }
def FnExactFeedMixWrongFalsely : Prop := fnExactFeedMixRow.holds Tryd.pinned (OpenSpec.ofChange fnExactFeedMixWrong)

/-- 'laws.FnExactDigestOf': WHATEVER THE INPUT: true; the input reads as it did. -/
def fnExactDigestOfSpec : ChangeSpec := { name := "fnExactDigestOf", vars := ["loop.example/g00537/impl.pieceWeights"], fn := fun _ => fun
  | [d1, d2, g1] => { results := [.lit (.bool true)], args := [d1, d2], vars := [g1] }
  | _ => none }
def fnExactDigestOfRow : OpenClaim := { program := "ytmnebdgoombfoaadoor", sum := "c2fdc56cf4f1f31077c45f52eec415b29cd25ad0f339abaa1d992df39dbf7306", func := "loop.example/g00537/laws.FnExactDigestOf", spec := "fnExactDigestOf", named := ["loop.example/g00537/impl.pieceWeights"], apart := false, laid := [("loop.example/g00537/impl.pieceWeights", laid_loop_example_g00537_impl_pieceWeights)] }
def FnExactDigestOfSaid : Prop := fnExactDigestOfRow.holds Tryd.pinned (OpenSpec.ofChange fnExactDigestOfSpec)

/-- ITS FALSE NEIGHBOUR: 'it returns false'. Refute it at one input. -/
def fnExactDigestOfWrong : ChangeSpec := { name := "fnExactDigestOf", vars := ["loop.example/g00537/impl.pieceWeights"], fn := fun _ => fun
  | [d1, d2, g1] => { results := [.lit (.bool false)], args := [d1, d2], vars := [g1] }
  | _ => none }
def FnExactDigestOfWrongFalsely : Prop := fnExactDigestOfRow.holds Tryd.pinned (OpenSpec.ofChange fnExactDigestOfWrong)

/-- 'laws.FnExactListDigest': WHATEVER THE INPUT: true; the input reads as it did. -/
def fnExactListDigestSpec : ChangeSpec := { name := "fnExactListDigest", vars := ["loop.example/g00537/impl.pieceWeights"], fn := fun _ => fun
  | [d1, d2, g1] => { results := [.lit (.bool true)], args := [d1, d2], vars := [g1] }
  | _ => none }
def fnExactListDigestRow : OpenClaim := { program := "ytmnebdgoombfoaadoor", sum := "c2fdc56cf4f1f31077c45f52eec415b29cd25ad0f339abaa1d992df39dbf7306", func := "loop.example/g00537/laws.FnExactListDigest", spec := "fnExactListDigest", named := ["loop.example/g00537/impl.pieceWeights"], apart := false, laid := [("loop.example/g00537/impl.pieceWeights", laid_loop_example_g00537_impl_pieceWeights)] }
def FnExactListDigestSaid : Prop := fnExactListDigestRow.holds Tryd.pinned (OpenSpec.ofChange fnExactListDigestSpec)

/-- ITS FALSE NEIGHBOUR: 'it returns false'. Refute it at one input. -/
def fnExactListDigestWrong : ChangeSpec := { name := "fnExactListDigest", vars := ["loop.example/g00537/impl.pieceWeights"], fn := fun _ => fun
  | [d1, d2, g1] => { results := [.lit (.bool false)], args := [d1, d2], vars := [g1] }
  | _ => none }
def FnExactListDigestWrongFalsely : Prop := fnExactListDigestRow.holds Tryd.pinned (OpenSpec.ofChange fnExactListDigestWrong)

/-- 'laws.FnExactClashOf': WHATEVER THE INPUT: true; the input reads as it did. -/
def fnExactClashOfSpec : ChangeSpec := { name := "fnExactClashOf", vars := ["loop.example/g00537/impl.pieceWeights"], fn := fun _ => fun
  | [d1, d2, d3, g1] => { results := [.lit (.bool true)], args := [d1, d2, d3], vars := [g1] }
  | _ => none }
def fnExactClashOfRow : OpenClaim := { program := "ytmnebdgoombfoaadoor", sum := "c2fdc56cf4f1f31077c45f52eec415b29cd25ad0f339abaa1d992df39dbf7306", func := "loop.example/g00537/laws.FnExactClashOf", spec := "fnExactClashOf", named := ["loop.example/g00537/impl.pieceWeights"], apart := false, laid := [("loop.example/g00537/impl.pieceWeights", laid_loop_example_g00537_impl_pieceWeights)] }
def FnExactClashOfSaid : Prop := fnExactClashOfRow.holds Tryd.pinned (OpenSpec.ofChange fnExactClashOfSpec)

/-- ITS FALSE NEIGHBOUR: 'it returns false'. Refute it at one input. -/
def fnExactClashOfWrong : ChangeSpec := { name := "fnExactClashOf", vars := ["loop.example/g00537/impl.pieceWeights"], fn := fun _ => fun
  | [d1, d2, d3, g1] => { results := [.lit (.bool false)], args := [d1, d2, d3], vars := [g1] }
  | _ => none }
def FnExactClashOfWrongFalsely : Prop := fnExactClashOfRow.holds Tryd.pinned (OpenSpec.ofChange fnExactClashOfWrong)

/- THE SECOND FORM. 'bulk': how many values and letters a reading holds, each counted each time it is reached (what is shared counts as often as it is met; a slice's spare places count too). A statement '..UptoSaid' is the law's where the arguments, and the package variables that the reading takes, are together of bulk at most 1048576: NARROWER than '..Said'. Prove '..Said' where nothing that the law and all that it calls make is longer than what came in: it says more and counts as full. Else prove '..UptoSaid'. A law counts once. -/
mutual
def uptoBulk {H : Type} : DataW H → Nat
  | .lit (.string bytes) => bytes.length + 1
  | .lit _ => 1
  | .nil => 1
  | .ptr d => uptoBulk d + 1
  | .slice elems spare => uptoBulkAll elems + uptoBulkAll spare + 1
  | .agg parts => uptoBulkAll parts + 1
  | .iface _ d => uptoBulk d + 1
  | .map entries => uptoBulkEntries entries + 1
  | .held _ => 1
def uptoBulkAll {H : Type} : List (DataW H) → Nat
  | [] => 0
  | d :: r => uptoBulk d + uptoBulkAll r
def uptoBulkEntries {H : Type} : List (Lit × DataW H) → Nat
  | [] => 0
  | x :: r => uptoBulkEntry x + uptoBulkEntries r
def uptoBulkEntry {H : Type} : Lit × DataW H → Nat
  | (.string bytes, d) => bytes.length + uptoBulk d + 1
  | (_, d) => uptoBulk d + 1
 end
def uptoSmall : (H : Type) → List (DataW H) → Bool := fun _ ds => decide (uptoBulkAll ds ≤ 1048576)
def OpenSpec.upto (s : _root_.Go.ChangeSpec) : _root_.Go.OpenSpec := { _root_.Go.OpenSpec.ofChange s with cond := some uptoSmall }

/-- 'laws.FnMixes', WHERE WHAT IT READS IS OF BULK AT MOST 1048576: true; the input reads as it did. -/
def fnMixesUptoRow : OpenClaim := { program := "ytmnebdgoombfoaadoor", sum := "c2fdc56cf4f1f31077c45f52eec415b29cd25ad0f339abaa1d992df39dbf7306", func := "loop.example/g00537/laws.FnMixes", spec := "fnMixes", named := ["loop.example/g00537/impl.pieceWeights"], apart := false, laid := [("loop.example/g00537/impl.pieceWeights", laid_loop_example_g00537_impl_pieceWeights)], narrowed := true }
def FnMixesUptoSaid : Prop := fnMixesUptoRow.holds Tryd.pinned (OpenSpec.upto fnMixesSpec)

/-- 'laws.FnClashes', WHERE WHAT IT READS IS OF BULK AT MOST 1048576: true; the input reads as it did. -/
def fnClashesUptoRow : OpenClaim := { program := "ytmnebdgoombfoaadoor", sum := "c2fdc56cf4f1f31077c45f52eec415b29cd25ad0f339abaa1d992df39dbf7306", func := "loop.example/g00537/laws.FnClashes", spec := "fnClashes", named := ["loop.example/g00537/impl.pieceWeights"], apart := false, laid := [("loop.example/g00537/impl.pieceWeights", laid_loop_example_g00537_impl_pieceWeights)], narrowed := true }
def FnClashesUptoSaid : Prop := fnClashesUptoRow.holds Tryd.pinned (OpenSpec.upto fnClashesSpec)

/-- 'laws.FnExactFeedMix', WHERE WHAT IT READS IS OF BULK AT MOST 1048576: true; the input reads as it did. -/
def fnExactFeedMixUptoRow : OpenClaim := { program := "ytmnebdgoombfoaadoor", sum := "c2fdc56cf4f1f31077c45f52eec415b29cd25ad0f339abaa1d992df39dbf7306", func := "loop.example/g00537/laws.FnExactFeedMix", spec := "fnExactFeedMix", named := ["loop.example/g00537/impl.pieceWeights"], apart := false, laid := [("loop.example/g00537/impl.pieceWeights", laid_loop_example_g00537_impl_pieceWeights)], narrowed := true }
def FnExactFeedMixUptoSaid : Prop := fnExactFeedMixUptoRow.holds Tryd.pinned (OpenSpec.upto fnExactFeedMixSpec)

/-- 'laws.FnExactDigestOf', WHERE WHAT IT READS IS OF BULK AT MOST 1048576: true; the input reads as it did. -/
def fnExactDigestOfUptoRow : OpenClaim := { program := "ytmnebdgoombfoaadoor", sum := "c2fdc56cf4f1f31077c45f52eec415b29cd25ad0f339abaa1d992df39dbf7306", func := "loop.example/g00537/laws.FnExactDigestOf", spec := "fnExactDigestOf", named := ["loop.example/g00537/impl.pieceWeights"], apart := false, laid := [("loop.example/g00537/impl.pieceWeights", laid_loop_example_g00537_impl_pieceWeights)], narrowed := true }
def FnExactDigestOfUptoSaid : Prop := fnExactDigestOfUptoRow.holds Tryd.pinned (OpenSpec.upto fnExactDigestOfSpec)

/-- 'laws.FnExactListDigest', WHERE WHAT IT READS IS OF BULK AT MOST 1048576: true; the input reads as it did. -/
def fnExactListDigestUptoRow : OpenClaim := { program := "ytmnebdgoombfoaadoor", sum := "c2fdc56cf4f1f31077c45f52eec415b29cd25ad0f339abaa1d992df39dbf7306", func := "loop.example/g00537/laws.FnExactListDigest", spec := "fnExactListDigest", named := ["loop.example/g00537/impl.pieceWeights"], apart := false, laid := [("loop.example/g00537/impl.pieceWeights", laid_loop_example_g00537_impl_pieceWeights)], narrowed := true }
def FnExactListDigestUptoSaid : Prop := fnExactListDigestUptoRow.holds Tryd.pinned (OpenSpec.upto fnExactListDigestSpec)

/-- 'laws.FnExactClashOf', WHERE WHAT IT READS IS OF BULK AT MOST 1048576: true; the input reads as it did. -/
def fnExactClashOfUptoRow : OpenClaim := { program := "ytmnebdgoombfoaadoor", sum := "c2fdc56cf4f1f31077c45f52eec415b29cd25ad0f339abaa1d992df39dbf7306", func := "loop.example/g00537/laws.FnExactClashOf", spec := "fnExactClashOf", named := ["loop.example/g00537/impl.pieceWeights"], apart := false, laid := [("loop.example/g00537/impl.pieceWeights", laid_loop_example_g00537_impl_pieceWeights)], narrowed := true }
def FnExactClashOfUptoSaid : Prop := fnExactClashOfUptoRow.holds Tryd.pinned (OpenSpec.upto fnExactClashOfSpec)

end Rows
end Go.Proofs.YtmnebdgoombfoaaDoor
