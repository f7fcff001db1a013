/-
  NARROWER THAN 'FOR EVERY INPUT', by the rows' own cells (each row's printed sentence says how): FnOnce: laid · FnSeals: laid · FnTops: laid · FnExactCheckOnce: laid · FnExactPublicFrom: laid · FnExactTopOf: laid · FnExactWayOf: laid · FnExactSealText: laid · FnExactCheckSeal: laid · FnExactLeafOf: laid · FnExactTopFrom: laid.
  DERIVED. THE GIVEN ROWS OF THIS SEAT. 11 by the template 'for every input the law returns true; each argument reads behind the call as it read before'; 0 by the template 'total and deterministic' (their statements: YtemkkofjakpjiaaDoorTotals.lean).
  GIVEN WITH THE SEED: the statements are not yours to turn. If you find one false, say at which input.
  Laid BY PROGRAM, IN A SANDBOX (cutbox-rows.mjs): the forced cells as the released guide's own fill.sh prints them over the translation 0df25eb1fa9d79d9… (all of the seat's roots in one cut). By AI agents, Wed Nov 11 2026. No macro, syntax, notation, axiom, sorry.
-/
import Derived.Test.YtemkkofjakpjiaaDoorChecked
import GoSem.Claim
import GoSem.ClaimJoined
import GoSem.ClaimMapViews
import Derived.JoinedTies
import Derived.KernelRfl
namespace Go.Proofs.YtemkkofjakpjiaaDoor
/- THE CELL 'sum', in the pinned program and in every row, IS THE sha256 OF THE DUMP (.gsa) THAT YtemkkofjakpjiaaDoorProg.lean LOADS. Nothing in Lean hashes anything: it is a label: what it is worth is what the hold of that sum in a sandbox is worth. -/
noncomputable def Tryd.pinned : Pinned := { name := "ytemkkofjakpjiaadoor", sum := "0df25eb1fa9d79d9ac816659f934be99746eb9aea1bec5c59edab2d655830a39", checked := Tryd.checked }
namespace Rows
def none {H : Type} : Left H := { results := [], args := [] }

/- WHAT THE LISTED PACKAGE-LEVEL VARIABLES READ AS WHEN THE CALL BEGINS. Each datum BY PROGRAM (the guide's laid-datum.mjs) off the statement by which the dump's own 'gosem.cut.vars' lays the variable. In a bare row this is a premise. The card (YtemkkofjakpjiaaDoorCards.lean) ties it to the program's text. -/
def laid_loop_example_g00537_impl_pieceWeights {H : Type} : DataW H := .agg [.lit (.int .i64 8), .lit (.int .i64 7), .lit (.int .i64 6), .lit (.int .i64 5), .lit (.int .i64 4), .lit (.int .i64 3), .lit (.int .i64 2), .lit (.int .i64 1)]

/-- 'laws.FnOnce': WHATEVER THE INPUT: true; the input reads as it did. -/
def fnOnceSpec : ChangeSpec := { name := "fnOnce", vars := ["loop.example/g00537/impl.pieceWeights"], fn := fun _ => fun
  | [d1, d2, g1] => { results := [.lit (.bool true)], args := [d1, d2], vars := [g1] }
  | _ => none }
def fnOnceRow : OpenClaim := { program := "ytemkkofjakpjiaadoor", sum := "0df25eb1fa9d79d9ac816659f934be99746eb9aea1bec5c59edab2d655830a39", func := "loop.example/g00537/laws.FnOnce", spec := "fnOnce", inPlace := ["internal/abi.NoEscape", "internal/bytealg.MakeNoZero"], unfollowed := true, recurses := true, named := ["loop.example/g00537/impl.pieceWeights"], apart := false, laid := [("loop.example/g00537/impl.pieceWeights", laid_loop_example_g00537_impl_pieceWeights)] }
def FnOnceSaid : Prop := fnOnceRow.holds Tryd.pinned (OpenSpec.ofChange fnOnceSpec)

/-- ITS FALSE NEIGHBOUR: 'it returns false'. Refute it at one input. -/
def fnOnceWrong : ChangeSpec := { name := "fnOnce", vars := ["loop.example/g00537/impl.pieceWeights"], fn := fun _ => fun
  | [d1, d2, g1] => { results := [.lit (.bool false)], args := [d1, d2], vars := [g1] }
  | _ => none }
def FnOnceWrongFalsely : Prop := fnOnceRow.holds Tryd.pinned (OpenSpec.ofChange fnOnceWrong)

/-- 'laws.FnSeals': WHATEVER THE INPUT: true; the input reads as it did. -/
def fnSealsSpec : ChangeSpec := { name := "fnSeals", vars := ["loop.example/g00537/impl.pieceWeights"], fn := fun _ => fun
  | [d1, d2, g1] => { results := [.lit (.bool true)], args := [d1, d2], vars := [g1] }
  | _ => none }
def fnSealsRow : OpenClaim := { program := "ytemkkofjakpjiaadoor", sum := "0df25eb1fa9d79d9ac816659f934be99746eb9aea1bec5c59edab2d655830a39", func := "loop.example/g00537/laws.FnSeals", spec := "fnSeals", inPlace := ["internal/abi.NoEscape", "internal/bytealg.MakeNoZero"], unfollowed := true, recurses := true, named := ["loop.example/g00537/impl.pieceWeights"], apart := false, laid := [("loop.example/g00537/impl.pieceWeights", laid_loop_example_g00537_impl_pieceWeights)] }
def FnSealsSaid : Prop := fnSealsRow.holds Tryd.pinned (OpenSpec.ofChange fnSealsSpec)

/-- ITS FALSE NEIGHBOUR: 'it returns false'. Refute it at one input. -/
def fnSealsWrong : ChangeSpec := { name := "fnSeals", vars := ["loop.example/g00537/impl.pieceWeights"], fn := fun _ => fun
  | [d1, d2, g1] => { results := [.lit (.bool false)], args := [d1, d2], vars := [g1] }
  | _ => none }
def FnSealsWrongFalsely : Prop := fnSealsRow.holds Tryd.pinned (OpenSpec.ofChange fnSealsWrong)

/-- 'laws.FnTops': WHATEVER THE INPUT: true; the input reads as it did. -/
def fnTopsSpec : ChangeSpec := { name := "fnTops", vars := ["loop.example/g00537/impl.pieceWeights"], fn := fun _ => fun
  | [d1, d2, g1] => { results := [.lit (.bool true)], args := [d1, d2], vars := [g1] }
  | _ => none }
def fnTopsRow : OpenClaim := { program := "ytemkkofjakpjiaadoor", sum := "0df25eb1fa9d79d9ac816659f934be99746eb9aea1bec5c59edab2d655830a39", func := "loop.example/g00537/laws.FnTops", spec := "fnTops", inPlace := ["internal/abi.NoEscape", "internal/bytealg.MakeNoZero"], unfollowed := true, recurses := true, named := ["loop.example/g00537/impl.pieceWeights"], apart := false, laid := [("loop.example/g00537/impl.pieceWeights", laid_loop_example_g00537_impl_pieceWeights)] }
def FnTopsSaid : Prop := fnTopsRow.holds Tryd.pinned (OpenSpec.ofChange fnTopsSpec)

/-- ITS FALSE NEIGHBOUR: 'it returns false'. Refute it at one input. -/
def fnTopsWrong : ChangeSpec := { name := "fnTops", vars := ["loop.example/g00537/impl.pieceWeights"], fn := fun _ => fun
  | [d1, d2, g1] => { results := [.lit (.bool false)], args := [d1, d2], vars := [g1] }
  | _ => none }
def FnTopsWrongFalsely : Prop := fnTopsRow.holds Tryd.pinned (OpenSpec.ofChange fnTopsWrong)

/-- 'laws.FnExactCheckOnce': WHATEVER THE INPUT: true; the input reads as it did. -/
def fnExactCheckOnceSpec : ChangeSpec := { name := "fnExactCheckOnce", vars := ["loop.example/g00537/impl.pieceWeights"], fn := fun _ => fun
  | [d1, d2, d3, g1] => { results := [.lit (.bool true)], args := [d1, d2, d3], vars := [g1] }
  | _ => none }
def fnExactCheckOnceRow : OpenClaim := { program := "ytemkkofjakpjiaadoor", sum := "0df25eb1fa9d79d9ac816659f934be99746eb9aea1bec5c59edab2d655830a39", func := "loop.example/g00537/laws.FnExactCheckOnce", spec := "fnExactCheckOnce", inPlace := ["internal/abi.NoEscape", "internal/bytealg.MakeNoZero"], unfollowed := true, recurses := true, named := ["loop.example/g00537/impl.pieceWeights"], apart := false, laid := [("loop.example/g00537/impl.pieceWeights", laid_loop_example_g00537_impl_pieceWeights)] }
def FnExactCheckOnceSaid : Prop := fnExactCheckOnceRow.holds Tryd.pinned (OpenSpec.ofChange fnExactCheckOnceSpec)

/-- ITS FALSE NEIGHBOUR: 'it returns false'. Refute it at one input. -/
def fnExactCheckOnceWrong : ChangeSpec := { name := "fnExactCheckOnce", vars := ["loop.example/g00537/impl.pieceWeights"], fn := fun _ => fun
  | [d1, d2, d3, g1] => { results := [.lit (.bool false)], args := [d1, d2, d3], vars := [g1] }
  | _ => none }
def FnExactCheckOnceWrongFalsely : Prop := fnExactCheckOnceRow.holds Tryd.pinned (OpenSpec.ofChange fnExactCheckOnceWrong)

/-- 'laws.FnExactPublicFrom': WHATEVER THE INPUT: true; the input reads as it did. -/
def fnExactPublicFromSpec : ChangeSpec := { name := "fnExactPublicFrom", vars := ["loop.example/g00537/impl.pieceWeights"], fn := fun _ => fun
  | [d1, d2, g1] => { results := [.lit (.bool true)], args := [d1, d2], vars := [g1] }
  | _ => none }
def fnExactPublicFromRow : OpenClaim := { program := "ytemkkofjakpjiaadoor", sum := "0df25eb1fa9d79d9ac816659f934be99746eb9aea1bec5c59edab2d655830a39", func := "loop.example/g00537/laws.FnExactPublicFrom", spec := "fnExactPublicFrom", inPlace := ["internal/abi.NoEscape", "internal/bytealg.MakeNoZero"], unfollowed := true, recurses := true, named := ["loop.example/g00537/impl.pieceWeights"], apart := false, laid := [("loop.example/g00537/impl.pieceWeights", laid_loop_example_g00537_impl_pieceWeights)] }
def FnExactPublicFromSaid : Prop := fnExactPublicFromRow.holds Tryd.pinned (OpenSpec.ofChange fnExactPublicFromSpec)

/-- ITS FALSE NEIGHBOUR: 'it returns false'. Refute it at one input. -/
def fnExactPublicFromWrong : ChangeSpec := { name := "fnExactPublicFrom", vars := ["loop.example/g00537/impl.pieceWeights"], fn := fun _ => fun
  | [d1, d2, g1] => { results := [.lit (.bool false)], args := [d1, d2], vars := [g1] }
  | _ => none }
def FnExactPublicFromWrongFalsely : Prop := fnExactPublicFromRow.holds Tryd.pinned (OpenSpec.ofChange fnExactPublicFromWrong)

/-- 'laws.FnExactTopOf': WHATEVER THE INPUT: true; the input reads as it did. -/
def fnExactTopOfSpec : ChangeSpec := { name := "fnExactTopOf", vars := ["loop.example/g00537/impl.pieceWeights"], fn := fun _ => fun
  | [d, g1] => { results := [.lit (.bool true)], args := [d], vars := [g1] }
  | _ => none }
def fnExactTopOfRow : OpenClaim := { program := "ytemkkofjakpjiaadoor", sum := "0df25eb1fa9d79d9ac816659f934be99746eb9aea1bec5c59edab2d655830a39", func := "loop.example/g00537/laws.FnExactTopOf", spec := "fnExactTopOf", inPlace := ["internal/abi.NoEscape", "internal/bytealg.MakeNoZero"], unfollowed := true, recurses := true, named := ["loop.example/g00537/impl.pieceWeights"], apart := false, laid := [("loop.example/g00537/impl.pieceWeights", laid_loop_example_g00537_impl_pieceWeights)] }
def FnExactTopOfSaid : Prop := fnExactTopOfRow.holds Tryd.pinned (OpenSpec.ofChange fnExactTopOfSpec)

/-- ITS FALSE NEIGHBOUR: 'it returns false'. Refute it at one input. -/
def fnExactTopOfWrong : ChangeSpec := { name := "fnExactTopOf", vars := ["loop.example/g00537/impl.pieceWeights"], fn := fun _ => fun
  | [d, g1] => { results := [.lit (.bool false)], args := [d], vars := [g1] }
  | _ => none }
def FnExactTopOfWrongFalsely : Prop := fnExactTopOfRow.holds Tryd.pinned (OpenSpec.ofChange fnExactTopOfWrong)

/-- 'laws.FnExactWayOf': WHATEVER THE INPUT: true; the input reads as it did. -/
def fnExactWayOfSpec : ChangeSpec := { name := "fnExactWayOf", vars := ["loop.example/g00537/impl.pieceWeights"], fn := fun _ => fun
  | [d1, d2, g1] => { results := [.lit (.bool true)], args := [d1, d2], vars := [g1] }
  | _ => none }
def fnExactWayOfRow : OpenClaim := { program := "ytemkkofjakpjiaadoor", sum := "0df25eb1fa9d79d9ac816659f934be99746eb9aea1bec5c59edab2d655830a39", func := "loop.example/g00537/laws.FnExactWayOf", spec := "fnExactWayOf", inPlace := ["internal/abi.NoEscape", "internal/bytealg.MakeNoZero"], unfollowed := true, recurses := true, named := ["loop.example/g00537/impl.pieceWeights"], apart := false, laid := [("loop.example/g00537/impl.pieceWeights", laid_loop_example_g00537_impl_pieceWeights)] }
def FnExactWayOfSaid : Prop := fnExactWayOfRow.holds Tryd.pinned (OpenSpec.ofChange fnExactWayOfSpec)

/-- ITS FALSE NEIGHBOUR: 'it returns false'. Refute it at one input. -/
def fnExactWayOfWrong : ChangeSpec := { name := "fnExactWayOf", vars := ["loop.example/g00537/impl.pieceWeights"], fn := fun _ => fun
  | [d1, d2, g1] => { results := [.lit (.bool false)], args := [d1, d2], vars := [g1] }
  | _ => none }
def FnExactWayOfWrongFalsely : Prop := fnExactWayOfRow.holds Tryd.pinned (OpenSpec.ofChange fnExactWayOfWrong)

/-- 'laws.FnExactSealText': WHATEVER THE INPUT: true; the input reads as it did. -/
def fnExactSealTextSpec : ChangeSpec := { name := "fnExactSealText", vars := ["loop.example/g00537/impl.pieceWeights"], fn := fun _ => fun
  | [d1, d2, g1] => { results := [.lit (.bool true)], args := [d1, d2], vars := [g1] }
  | _ => none }
def fnExactSealTextRow : OpenClaim := { program := "ytemkkofjakpjiaadoor", sum := "0df25eb1fa9d79d9ac816659f934be99746eb9aea1bec5c59edab2d655830a39", func := "loop.example/g00537/laws.FnExactSealText", spec := "fnExactSealText", inPlace := ["internal/abi.NoEscape", "internal/bytealg.MakeNoZero"], unfollowed := true, recurses := true, named := ["loop.example/g00537/impl.pieceWeights"], apart := false, laid := [("loop.example/g00537/impl.pieceWeights", laid_loop_example_g00537_impl_pieceWeights)] }
def FnExactSealTextSaid : Prop := fnExactSealTextRow.holds Tryd.pinned (OpenSpec.ofChange fnExactSealTextSpec)

/-- ITS FALSE NEIGHBOUR: 'it returns false'. Refute it at one input. -/
def fnExactSealTextWrong : ChangeSpec := { name := "fnExactSealText", vars := ["loop.example/g00537/impl.pieceWeights"], fn := fun _ => fun
  | [d1, d2, g1] => { results := [.lit (.bool false)], args := [d1, d2], vars := [g1] }
  | _ => none }
def FnExactSealTextWrongFalsely : Prop := fnExactSealTextRow.holds Tryd.pinned (OpenSpec.ofChange fnExactSealTextWrong)

/-- 'laws.FnExactCheckSeal': WHATEVER THE INPUT: true; the input reads as it did. -/
def fnExactCheckSealSpec : ChangeSpec := { name := "fnExactCheckSeal", vars := ["loop.example/g00537/impl.pieceWeights"], fn := fun _ => fun
  | [d1, d2, d3, g1] => { results := [.lit (.bool true)], args := [d1, d2, d3], vars := [g1] }
  | _ => none }
def fnExactCheckSealRow : OpenClaim := { program := "ytemkkofjakpjiaadoor", sum := "0df25eb1fa9d79d9ac816659f934be99746eb9aea1bec5c59edab2d655830a39", func := "loop.example/g00537/laws.FnExactCheckSeal", spec := "fnExactCheckSeal", inPlace := ["internal/abi.NoEscape", "internal/bytealg.MakeNoZero"], unfollowed := true, recurses := true, named := ["loop.example/g00537/impl.pieceWeights"], apart := false, laid := [("loop.example/g00537/impl.pieceWeights", laid_loop_example_g00537_impl_pieceWeights)] }
def FnExactCheckSealSaid : Prop := fnExactCheckSealRow.holds Tryd.pinned (OpenSpec.ofChange fnExactCheckSealSpec)

/-- ITS FALSE NEIGHBOUR: 'it returns false'. Refute it at one input. -/
def fnExactCheckSealWrong : ChangeSpec := { name := "fnExactCheckSeal", vars := ["loop.example/g00537/impl.pieceWeights"], fn := fun _ => fun
  | [d1, d2, d3, g1] => { results := [.lit (.bool false)], args := [d1, d2, d3], vars := [g1] }
  | _ => none }
def FnExactCheckSealWrongFalsely : Prop := fnExactCheckSealRow.holds Tryd.pinned (OpenSpec.ofChange fnExactCheckSealWrong)

/-- 'laws.FnExactLeafOf': WHATEVER THE INPUT: true; the input reads as it did. -/
def fnExactLeafOfSpec : ChangeSpec := { name := "fnExactLeafOf", vars := ["loop.example/g00537/impl.pieceWeights"], fn := fun _ => fun
  | [d1, d2, g1] => { results := [.lit (.bool true)], args := [d1, d2], vars := [g1] }
  | _ => none }
def fnExactLeafOfRow : OpenClaim := { program := "ytemkkofjakpjiaadoor", sum := "0df25eb1fa9d79d9ac816659f934be99746eb9aea1bec5c59edab2d655830a39", func := "loop.example/g00537/laws.FnExactLeafOf", spec := "fnExactLeafOf", inPlace := ["internal/abi.NoEscape", "internal/bytealg.MakeNoZero"], unfollowed := true, recurses := true, named := ["loop.example/g00537/impl.pieceWeights"], apart := false, laid := [("loop.example/g00537/impl.pieceWeights", laid_loop_example_g00537_impl_pieceWeights)] }
def FnExactLeafOfSaid : Prop := fnExactLeafOfRow.holds Tryd.pinned (OpenSpec.ofChange fnExactLeafOfSpec)

/-- ITS FALSE NEIGHBOUR: 'it returns false'. Refute it at one input. -/
def fnExactLeafOfWrong : ChangeSpec := { name := "fnExactLeafOf", vars := ["loop.example/g00537/impl.pieceWeights"], fn := fun _ => fun
  | [d1, d2, g1] => { results := [.lit (.bool false)], args := [d1, d2], vars := [g1] }
  | _ => none }
def FnExactLeafOfWrongFalsely : Prop := fnExactLeafOfRow.holds Tryd.pinned (OpenSpec.ofChange fnExactLeafOfWrong)

/-- 'laws.FnExactTopFrom': WHATEVER THE INPUT: true; the input reads as it did. -/
def fnExactTopFromSpec : ChangeSpec := { name := "fnExactTopFrom", vars := ["loop.example/g00537/impl.pieceWeights"], fn := fun _ => fun
  | [d1, d2, d3, g1] => { results := [.lit (.bool true)], args := [d1, d2, d3], vars := [g1] }
  | _ => none }
def fnExactTopFromRow : OpenClaim := { program := "ytemkkofjakpjiaadoor", sum := "0df25eb1fa9d79d9ac816659f934be99746eb9aea1bec5c59edab2d655830a39", func := "loop.example/g00537/laws.FnExactTopFrom", spec := "fnExactTopFrom", named := ["loop.example/g00537/impl.pieceWeights"], apart := false, laid := [("loop.example/g00537/impl.pieceWeights", laid_loop_example_g00537_impl_pieceWeights)] }
def FnExactTopFromSaid : Prop := fnExactTopFromRow.holds Tryd.pinned (OpenSpec.ofChange fnExactTopFromSpec)

/-- ITS FALSE NEIGHBOUR: 'it returns false'. Refute it at one input. -/
def fnExactTopFromWrong : ChangeSpec := { name := "fnExactTopFrom", vars := ["loop.example/g00537/impl.pieceWeights"], fn := fun _ => fun
  | [d1, d2, d3, g1] => { results := [.lit (.bool false)], args := [d1, d2, d3], vars := [g1] }
  | _ => none }
def FnExactTopFromWrongFalsely : Prop := fnExactTopFromRow.holds Tryd.pinned (OpenSpec.ofChange fnExactTopFromWrong)

/- THE SECOND FORM. 'bulk': how many values and letters a reading holds, each counted each time it is reached (what is shared counts as often as it is met; a slice's spare places count too). A statement '..UptoSaid' is the law's where the arguments, and the package variables that the reading takes, are together of bulk at most 1048576: NARROWER than '..Said'. Prove '..Said' where nothing that the law and all that it calls make is longer than what came in: it says more and counts as full. Else prove '..UptoSaid'. A law counts once. -/
mutual
def uptoBulk {H : Type} : DataW H → Nat
  | .lit (.string bytes) => bytes.length + 1
  | .lit _ => 1
  | .nil => 1
  | .ptr d => uptoBulk d + 1
  | .slice elems spare => uptoBulkAll elems + uptoBulkAll spare + 1
  | .agg parts => uptoBulkAll parts + 1
  | .iface _ d => uptoBulk d + 1
  | .map entries => uptoBulkEntries entries + 1
  | .held _ => 1
def uptoBulkAll {H : Type} : List (DataW H) → Nat
  | [] => 0
  | d :: r => uptoBulk d + uptoBulkAll r
def uptoBulkEntries {H : Type} : List (Lit × DataW H) → Nat
  | [] => 0
  | x :: r => uptoBulkEntry x + uptoBulkEntries r
def uptoBulkEntry {H : Type} : Lit × DataW H → Nat
  | (.string bytes, d) => bytes.length + uptoBulk d + 1
  | (_, d) => uptoBulk d + 1
 end
def uptoSmall : (H : Type) → List (DataW H) → Bool := fun _ ds => decide (uptoBulkAll ds ≤ 1048576)
def OpenSpec.upto (s : _root_.Go.ChangeSpec) : _root_.Go.OpenSpec := { _root_.Go.OpenSpec.ofChange s with cond := some uptoSmall }

/-- 'laws.FnOnce', WHERE WHAT IT READS IS OF BULK AT MOST 1048576: true; the input reads as it did. -/
def fnOnceUptoRow : OpenClaim := { program := "ytemkkofjakpjiaadoor", sum := "0df25eb1fa9d79d9ac816659f934be99746eb9aea1bec5c59edab2d655830a39", func := "loop.example/g00537/laws.FnOnce", spec := "fnOnce", inPlace := ["internal/abi.NoEscape", "internal/bytealg.MakeNoZero"], unfollowed := true, recurses := true, named := ["loop.example/g00537/impl.pieceWeights"], apart := false, laid := [("loop.example/g00537/impl.pieceWeights", laid_loop_example_g00537_impl_pieceWeights)], narrowed := true }
def FnOnceUptoSaid : Prop := fnOnceUptoRow.holds Tryd.pinned (OpenSpec.upto fnOnceSpec)

/-- 'laws.FnSeals', WHERE WHAT IT READS IS OF BULK AT MOST 1048576: true; the input reads as it did. -/
def fnSealsUptoRow : OpenClaim := { program := "ytemkkofjakpjiaadoor", sum := "0df25eb1fa9d79d9ac816659f934be99746eb9aea1bec5c59edab2d655830a39", func := "loop.example/g00537/laws.FnSeals", spec := "fnSeals", inPlace := ["internal/abi.NoEscape", "internal/bytealg.MakeNoZero"], unfollowed := true, recurses := true, named := ["loop.example/g00537/impl.pieceWeights"], apart := false, laid := [("loop.example/g00537/impl.pieceWeights", laid_loop_example_g00537_impl_pieceWeights)], narrowed := true }
def FnSealsUptoSaid : Prop := fnSealsUptoRow.holds Tryd.pinned (OpenSpec.upto fnSealsSpec)

/-- 'laws.FnTops', WHERE WHAT IT READS IS OF BULK AT MOST 1048576: true; the input reads as it did. -/
def fnTopsUptoRow : OpenClaim := { program := "ytemkkofjakpjiaadoor", sum := "0df25eb1fa9d79d9ac816659f934be99746eb9aea1bec5c59edab2d655830a39", func := "loop.example/g00537/laws.FnTops", spec := "fnTops", inPlace := ["internal/abi.NoEscape", "internal/bytealg.MakeNoZero"], unfollowed := true, recurses := true, named := ["loop.example/g00537/impl.pieceWeights"], apart := false, laid := [("loop.example/g00537/impl.pieceWeights", laid_loop_example_g00537_impl_pieceWeights)], narrowed := true }
def FnTopsUptoSaid : Prop := fnTopsUptoRow.holds Tryd.pinned (OpenSpec.upto fnTopsSpec)

/-- 'laws.FnExactCheckOnce', WHERE WHAT IT READS IS OF BULK AT MOST 1048576: true; the input reads as it did. -/
def fnExactCheckOnceUptoRow : OpenClaim := { program := "ytemkkofjakpjiaadoor", sum := "0df25eb1fa9d79d9ac816659f934be99746eb9aea1bec5c59edab2d655830a39", func := "loop.example/g00537/laws.FnExactCheckOnce", spec := "fnExactCheckOnce", inPlace := ["internal/abi.NoEscape", "internal/bytealg.MakeNoZero"], unfollowed := true, recurses := true, named := ["loop.example/g00537/impl.pieceWeights"], apart := false, laid := [("loop.example/g00537/impl.pieceWeights", laid_loop_example_g00537_impl_pieceWeights)], narrowed := true }
def FnExactCheckOnceUptoSaid : Prop := fnExactCheckOnceUptoRow.holds Tryd.pinned (OpenSpec.upto fnExactCheckOnceSpec)

/-- 'laws.FnExactPublicFrom', WHERE WHAT IT READS IS OF BULK AT MOST 1048576: true; the input reads as it did. -/
def fnExactPublicFromUptoRow : OpenClaim := { program := "ytemkkofjakpjiaadoor", sum := "0df25eb1fa9d79d9ac816659f934be99746eb9aea1bec5c59edab2d655830a39", func := "loop.example/g00537/laws.FnExactPublicFrom", spec := "fnExactPublicFrom", inPlace := ["internal/abi.NoEscape", "internal/bytealg.MakeNoZero"], unfollowed := true, recurses := true, named := ["loop.example/g00537/impl.pieceWeights"], apart := false, laid := [("loop.example/g00537/impl.pieceWeights", laid_loop_example_g00537_impl_pieceWeights)], narrowed := true }
def FnExactPublicFromUptoSaid : Prop := fnExactPublicFromUptoRow.holds Tryd.pinned (OpenSpec.upto fnExactPublicFromSpec)

/-- 'laws.FnExactTopOf', WHERE WHAT IT READS IS OF BULK AT MOST 1048576: true; the input reads as it did. -/
def fnExactTopOfUptoRow : OpenClaim := { program := "ytemkkofjakpjiaadoor", sum := "0df25eb1fa9d79d9ac816659f934be99746eb9aea1bec5c59edab2d655830a39", func := "loop.example/g00537/laws.FnExactTopOf", spec := "fnExactTopOf", inPlace := ["internal/abi.NoEscape", "internal/bytealg.MakeNoZero"], unfollowed := true, recurses := true, named := ["loop.example/g00537/impl.pieceWeights"], apart := false, laid := [("loop.example/g00537/impl.pieceWeights", laid_loop_example_g00537_impl_pieceWeights)], narrowed := true }
def FnExactTopOfUptoSaid : Prop := fnExactTopOfUptoRow.holds Tryd.pinned (OpenSpec.upto fnExactTopOfSpec)

/-- 'laws.FnExactWayOf', WHERE WHAT IT READS IS OF BULK AT MOST 1048576: true; the input reads as it did. -/
def fnExactWayOfUptoRow : OpenClaim := { program := "ytemkkofjakpjiaadoor", sum := "0df25eb1fa9d79d9ac816659f934be99746eb9aea1bec5c59edab2d655830a39", func := "loop.example/g00537/laws.FnExactWayOf", spec := "fnExactWayOf", inPlace := ["internal/abi.NoEscape", "internal/bytealg.MakeNoZero"], unfollowed := true, recurses := true, named := ["loop.example/g00537/impl.pieceWeights"], apart := false, laid := [("loop.example/g00537/impl.pieceWeights", laid_loop_example_g00537_impl_pieceWeights)], narrowed := true }
def FnExactWayOfUptoSaid : Prop := fnExactWayOfUptoRow.holds Tryd.pinned (OpenSpec.upto fnExactWayOfSpec)

/-- 'laws.FnExactSealText', WHERE WHAT IT READS IS OF BULK AT MOST 1048576: true; the input reads as it did. -/
def fnExactSealTextUptoRow : OpenClaim := { program := "ytemkkofjakpjiaadoor", sum := "0df25eb1fa9d79d9ac816659f934be99746eb9aea1bec5c59edab2d655830a39", func := "loop.example/g00537/laws.FnExactSealText", spec := "fnExactSealText", inPlace := ["internal/abi.NoEscape", "internal/bytealg.MakeNoZero"], unfollowed := true, recurses := true, named := ["loop.example/g00537/impl.pieceWeights"], apart := false, laid := [("loop.example/g00537/impl.pieceWeights", laid_loop_example_g00537_impl_pieceWeights)], narrowed := true }
def FnExactSealTextUptoSaid : Prop := fnExactSealTextUptoRow.holds Tryd.pinned (OpenSpec.upto fnExactSealTextSpec)

/-- 'laws.FnExactCheckSeal', WHERE WHAT IT READS IS OF BULK AT MOST 1048576: true; the input reads as it did. -/
def fnExactCheckSealUptoRow : OpenClaim := { program := "ytemkkofjakpjiaadoor", sum := "0df25eb1fa9d79d9ac816659f934be99746eb9aea1bec5c59edab2d655830a39", func := "loop.example/g00537/laws.FnExactCheckSeal", spec := "fnExactCheckSeal", inPlace := ["internal/abi.NoEscape", "internal/bytealg.MakeNoZero"], unfollowed := true, recurses := true, named := ["loop.example/g00537/impl.pieceWeights"], apart := false, laid := [("loop.example/g00537/impl.pieceWeights", laid_loop_example_g00537_impl_pieceWeights)], narrowed := true }
def FnExactCheckSealUptoSaid : Prop := fnExactCheckSealUptoRow.holds Tryd.pinned (OpenSpec.upto fnExactCheckSealSpec)

/-- 'laws.FnExactLeafOf', WHERE WHAT IT READS IS OF BULK AT MOST 1048576: true; the input reads as it did. -/
def fnExactLeafOfUptoRow : OpenClaim := { program := "ytemkkofjakpjiaadoor", sum := "0df25eb1fa9d79d9ac816659f934be99746eb9aea1bec5c59edab2d655830a39", func := "loop.example/g00537/laws.FnExactLeafOf", spec := "fnExactLeafOf", inPlace := ["internal/abi.NoEscape", "internal/bytealg.MakeNoZero"], unfollowed := true, recurses := true, named := ["loop.example/g00537/impl.pieceWeights"], apart := false, laid := [("loop.example/g00537/impl.pieceWeights", laid_loop_example_g00537_impl_pieceWeights)], narrowed := true }
def FnExactLeafOfUptoSaid : Prop := fnExactLeafOfUptoRow.holds Tryd.pinned (OpenSpec.upto fnExactLeafOfSpec)

/-- 'laws.FnExactTopFrom', WHERE WHAT IT READS IS OF BULK AT MOST 1048576: true; the input reads as it did. -/
def fnExactTopFromUptoRow : OpenClaim := { program := "ytemkkofjakpjiaadoor", sum := "0df25eb1fa9d79d9ac816659f934be99746eb9aea1bec5c59edab2d655830a39", func := "loop.example/g00537/laws.FnExactTopFrom", spec := "fnExactTopFrom", named := ["loop.example/g00537/impl.pieceWeights"], apart := false, laid := [("loop.example/g00537/impl.pieceWeights", laid_loop_example_g00537_impl_pieceWeights)], narrowed := true }
def FnExactTopFromUptoSaid : Prop := fnExactTopFromUptoRow.holds Tryd.pinned (OpenSpec.upto fnExactTopFromSpec)

end Rows
end Go.Proofs.YtemkkofjakpjiaaDoor
