/-
  NARROWER THAN 'FOR EVERY INPUT', by the rows' own cells (each row's printed sentence says how): FnOnce: laid · FnDigits: laid · FnExactChainOf: laid · FnExactDigitsOf: laid · FnExactKeyParts: laid · FnExactPublicOf: laid · FnExactSignOnce: laid · FnExactCheckOnce: laid · FnExactPublicFrom: laid.
  DERIVED. THE GIVEN ROWS OF THIS SEAT. 9 by the template 'for every input the law returns true; each argument reads behind the call as it read before'; 0 by the template 'total and deterministic' (their statements: YtphbcndboegnfaaDoorTotals.lean).
  GIVEN WITH THE SEED: the statements are not yours to turn. If you find one false, say at which input.
  Laid BY PROGRAM, IN A SANDBOX (cutbox-rows.mjs): the forced cells as the released guide's own fill.sh prints them over the translation 9e74c3151e44961a… (all of the seat's roots in one cut). By AI agents, Wed Nov 11 2026. No macro, syntax, notation, axiom, sorry.
-/
import Derived.Test.YtphbcndboegnfaaDoorChecked
import GoSem.Claim
import GoSem.ClaimJoined
import GoSem.ClaimMapViews
import Derived.JoinedTies
import Derived.KernelRfl
namespace Go.Proofs.YtphbcndboegnfaaDoor
/- THE CELL 'sum', in the pinned program and in every row, IS THE sha256 OF THE DUMP (.gsa) THAT YtphbcndboegnfaaDoorProg.lean LOADS. Nothing in Lean hashes anything: it is a label: what it is worth is what the hold of that sum in a sandbox is worth. -/
noncomputable def Tryd.pinned : Pinned := { name := "ytphbcndboegnfaadoor", sum := "9e74c3151e44961a63b60b8dde0a70e8d7b7beacc8a26e35864c13883ef53ed5", checked := Tryd.checked }
namespace Rows
def none {H : Type} : Left H := { results := [], args := [] }

/- WHAT THE LISTED PACKAGE-LEVEL VARIABLES READ AS WHEN THE CALL BEGINS. Each datum BY PROGRAM (the guide's laid-datum.mjs) off the statement by which the dump's own 'gosem.cut.vars' lays the variable. In a bare row this is a premise. The card (YtphbcndboegnfaaDoorCards.lean) ties it to the program's text. -/
def laid_loop_example_g00537_impl_pieceWeights {H : Type} : DataW H := .agg [.lit (.int .i64 8), .lit (.int .i64 7), .lit (.int .i64 6), .lit (.int .i64 5), .lit (.int .i64 4), .lit (.int .i64 3), .lit (.int .i64 2), .lit (.int .i64 1)]

/-- 'laws.FnOnce': WHATEVER THE INPUT: true; the input reads as it did. -/
def fnOnceSpec : ChangeSpec := { name := "fnOnce", vars := ["loop.example/g00537/impl.pieceWeights"], fn := fun _ => fun
  | [d1, d2, g1] => { results := [.lit (.bool true)], args := [d1, d2], vars := [g1] }
  | _ => none }
def fnOnceRow : OpenClaim := { program := "ytphbcndboegnfaadoor", sum := "9e74c3151e44961a63b60b8dde0a70e8d7b7beacc8a26e35864c13883ef53ed5", func := "loop.example/g00537/laws.FnOnce", spec := "fnOnce", inPlace := ["internal/abi.NoEscape", "internal/bytealg.MakeNoZero"], unfollowed := true, recurses := true, named := ["loop.example/g00537/impl.pieceWeights"], apart := false, laid := [("loop.example/g00537/impl.pieceWeights", laid_loop_example_g00537_impl_pieceWeights)] }
def FnOnceSaid : Prop := fnOnceRow.holds Tryd.pinned (OpenSpec.ofChange fnOnceSpec)

/-- ITS FALSE NEIGHBOUR: 'it returns false'. Refute it at one input. -/
def fnOnceWrong : ChangeSpec := { name := "fnOnce", vars := ["loop.example/g00537/impl.pieceWeights"], fn := fun _ => fun
  | [d1, d2, g1] => { results := [.lit (.bool false)], args := [d1, d2], vars := [g1] }
  | _ => none }
def FnOnceWrongFalsely : Prop := fnOnceRow.holds Tryd.pinned (OpenSpec.ofChange fnOnceWrong)

/-- 'laws.FnDigits': WHATEVER THE INPUT: true; the input reads as it did. -/
def fnDigitsSpec : ChangeSpec := { name := "fnDigits", vars := ["loop.example/g00537/impl.pieceWeights"], fn := fun _ => fun
  | [d1, d2, g1] => { results := [.lit (.bool true)], args := [d1, d2], vars := [g1] }
  | _ => none }
def fnDigitsRow : OpenClaim := { program := "ytphbcndboegnfaadoor", sum := "9e74c3151e44961a63b60b8dde0a70e8d7b7beacc8a26e35864c13883ef53ed5", func := "loop.example/g00537/laws.FnDigits", spec := "fnDigits", unfollowed := true, recurses := true, named := ["loop.example/g00537/impl.pieceWeights"], apart := false, laid := [("loop.example/g00537/impl.pieceWeights", laid_loop_example_g00537_impl_pieceWeights)] }
def FnDigitsSaid : Prop := fnDigitsRow.holds Tryd.pinned (OpenSpec.ofChange fnDigitsSpec)

/-- ITS FALSE NEIGHBOUR: 'it returns false'. Refute it at one input. -/
def fnDigitsWrong : ChangeSpec := { name := "fnDigits", vars := ["loop.example/g00537/impl.pieceWeights"], fn := fun _ => fun
  | [d1, d2, g1] => { results := [.lit (.bool false)], args := [d1, d2], vars := [g1] }
  | _ => none }
def FnDigitsWrongFalsely : Prop := fnDigitsRow.holds Tryd.pinned (OpenSpec.ofChange fnDigitsWrong)

/-- 'laws.FnExactChainOf': WHATEVER THE INPUT: true; the input reads as it did. -/
def fnExactChainOfSpec : ChangeSpec := { name := "fnExactChainOf", vars := ["loop.example/g00537/impl.pieceWeights"], fn := fun _ => fun
  | [d1, d2, d3, g1] => { results := [.lit (.bool true)], args := [d1, d2, d3], vars := [g1] }
  | _ => none }
def fnExactChainOfRow : OpenClaim := { program := "ytphbcndboegnfaadoor", sum := "9e74c3151e44961a63b60b8dde0a70e8d7b7beacc8a26e35864c13883ef53ed5", func := "loop.example/g00537/laws.FnExactChainOf", spec := "fnExactChainOf", unfollowed := true, recurses := true, named := ["loop.example/g00537/impl.pieceWeights"], apart := false, laid := [("loop.example/g00537/impl.pieceWeights", laid_loop_example_g00537_impl_pieceWeights)] }
def FnExactChainOfSaid : Prop := fnExactChainOfRow.holds Tryd.pinned (OpenSpec.ofChange fnExactChainOfSpec)

/-- ITS FALSE NEIGHBOUR: 'it returns false'. Refute it at one input. -/
def fnExactChainOfWrong : ChangeSpec := { name := "fnExactChainOf", vars := ["loop.example/g00537/impl.pieceWeights"], fn := fun _ => fun
  | [d1, d2, d3, g1] => { results := [.lit (.bool false)], args := [d1, d2, d3], vars := [g1] }
  | _ => none }
def FnExactChainOfWrongFalsely : Prop := fnExactChainOfRow.holds Tryd.pinned (OpenSpec.ofChange fnExactChainOfWrong)

/-- 'laws.FnExactDigitsOf': WHATEVER THE INPUT: true; the input reads as it did. -/
def fnExactDigitsOfSpec : ChangeSpec := { name := "fnExactDigitsOf", vars := ["loop.example/g00537/impl.pieceWeights"], fn := fun _ => fun
  | [d, g1] => { results := [.lit (.bool true)], args := [d], vars := [g1] }
  | _ => none }
def fnExactDigitsOfRow : OpenClaim := { program := "ytphbcndboegnfaadoor", sum := "9e74c3151e44961a63b60b8dde0a70e8d7b7beacc8a26e35864c13883ef53ed5", func := "loop.example/g00537/laws.FnExactDigitsOf", spec := "fnExactDigitsOf", named := ["loop.example/g00537/impl.pieceWeights"], apart := false, laid := [("loop.example/g00537/impl.pieceWeights", laid_loop_example_g00537_impl_pieceWeights)] }
def FnExactDigitsOfSaid : Prop := fnExactDigitsOfRow.holds Tryd.pinned (OpenSpec.ofChange fnExactDigitsOfSpec)

/-- ITS FALSE NEIGHBOUR: 'it returns false'. Refute it at one input. -/
def fnExactDigitsOfWrong : ChangeSpec := { name := "fnExactDigitsOf", vars := ["loop.example/g00537/impl.pieceWeights"], fn := fun _ => fun
  | [d, g1] => { results := [.lit (.bool false)], args := [d], vars := [g1] }
  | _ => none }
def FnExactDigitsOfWrongFalsely : Prop := fnExactDigitsOfRow.holds Tryd.pinned (OpenSpec.ofChange fnExactDigitsOfWrong)

/-- 'laws.FnExactKeyParts': WHATEVER THE INPUT: true; the input reads as it did. -/
def fnExactKeyPartsSpec : ChangeSpec := { name := "fnExactKeyParts", vars := ["loop.example/g00537/impl.pieceWeights"], fn := fun _ => fun
  | [d, g1] => { results := [.lit (.bool true)], args := [d], vars := [g1] }
  | _ => none }
def fnExactKeyPartsRow : OpenClaim := { program := "ytphbcndboegnfaadoor", sum := "9e74c3151e44961a63b60b8dde0a70e8d7b7beacc8a26e35864c13883ef53ed5", func := "loop.example/g00537/laws.FnExactKeyParts", spec := "fnExactKeyParts", named := ["loop.example/g00537/impl.pieceWeights"], apart := false, laid := [("loop.example/g00537/impl.pieceWeights", laid_loop_example_g00537_impl_pieceWeights)] }
def FnExactKeyPartsSaid : Prop := fnExactKeyPartsRow.holds Tryd.pinned (OpenSpec.ofChange fnExactKeyPartsSpec)

/-- ITS FALSE NEIGHBOUR: 'it returns false'. Refute it at one input. -/
def fnExactKeyPartsWrong : ChangeSpec := { name := "fnExactKeyParts", vars := ["loop.example/g00537/impl.pieceWeights"], fn := fun _ => fun
  | [d, g1] => { results := [.lit (.bool false)], args := [d], vars := [g1] }
  | _ => none }
def FnExactKeyPartsWrongFalsely : Prop := fnExactKeyPartsRow.holds Tryd.pinned (OpenSpec.ofChange fnExactKeyPartsWrong)

/-- 'laws.FnExactPublicOf': WHATEVER THE INPUT: true; the input reads as it did. -/
def fnExactPublicOfSpec : ChangeSpec := { name := "fnExactPublicOf", vars := ["loop.example/g00537/impl.pieceWeights"], fn := fun _ => fun
  | [d, g1] => { results := [.lit (.bool true)], args := [d], vars := [g1] }
  | _ => none }
def fnExactPublicOfRow : OpenClaim := { program := "ytphbcndboegnfaadoor", sum := "9e74c3151e44961a63b60b8dde0a70e8d7b7beacc8a26e35864c13883ef53ed5", func := "loop.example/g00537/laws.FnExactPublicOf", spec := "fnExactPublicOf", inPlace := ["internal/abi.NoEscape", "internal/bytealg.MakeNoZero"], unfollowed := true, recurses := true, named := ["loop.example/g00537/impl.pieceWeights"], apart := false, laid := [("loop.example/g00537/impl.pieceWeights", laid_loop_example_g00537_impl_pieceWeights)] }
def FnExactPublicOfSaid : Prop := fnExactPublicOfRow.holds Tryd.pinned (OpenSpec.ofChange fnExactPublicOfSpec)

/-- ITS FALSE NEIGHBOUR: 'it returns false'. Refute it at one input. -/
def fnExactPublicOfWrong : ChangeSpec := { name := "fnExactPublicOf", vars := ["loop.example/g00537/impl.pieceWeights"], fn := fun _ => fun
  | [d, g1] => { results := [.lit (.bool false)], args := [d], vars := [g1] }
  | _ => none }
def FnExactPublicOfWrongFalsely : Prop := fnExactPublicOfRow.holds Tryd.pinned (OpenSpec.ofChange fnExactPublicOfWrong)

/-- 'laws.FnExactSignOnce': WHATEVER THE INPUT: true; the input reads as it did. -/
def fnExactSignOnceSpec : ChangeSpec := { name := "fnExactSignOnce", vars := ["loop.example/g00537/impl.pieceWeights"], fn := fun _ => fun
  | [d1, d2, g1] => { results := [.lit (.bool true)], args := [d1, d2], vars := [g1] }
  | _ => none }
def fnExactSignOnceRow : OpenClaim := { program := "ytphbcndboegnfaadoor", sum := "9e74c3151e44961a63b60b8dde0a70e8d7b7beacc8a26e35864c13883ef53ed5", func := "loop.example/g00537/laws.FnExactSignOnce", spec := "fnExactSignOnce", unfollowed := true, recurses := true, named := ["loop.example/g00537/impl.pieceWeights"], apart := false, laid := [("loop.example/g00537/impl.pieceWeights", laid_loop_example_g00537_impl_pieceWeights)] }
def FnExactSignOnceSaid : Prop := fnExactSignOnceRow.holds Tryd.pinned (OpenSpec.ofChange fnExactSignOnceSpec)

/-- ITS FALSE NEIGHBOUR: 'it returns false'. Refute it at one input. -/
def fnExactSignOnceWrong : ChangeSpec := { name := "fnExactSignOnce", vars := ["loop.example/g00537/impl.pieceWeights"], fn := fun _ => fun
  | [d1, d2, g1] => { results := [.lit (.bool false)], args := [d1, d2], vars := [g1] }
  | _ => none }
def FnExactSignOnceWrongFalsely : Prop := fnExactSignOnceRow.holds Tryd.pinned (OpenSpec.ofChange fnExactSignOnceWrong)

/-- 'laws.FnExactCheckOnce': WHATEVER THE INPUT: true; the input reads as it did. -/
def fnExactCheckOnceSpec : ChangeSpec := { name := "fnExactCheckOnce", vars := ["loop.example/g00537/impl.pieceWeights"], fn := fun _ => fun
  | [d1, d2, d3, g1] => { results := [.lit (.bool true)], args := [d1, d2, d3], vars := [g1] }
  | _ => none }
def fnExactCheckOnceRow : OpenClaim := { program := "ytphbcndboegnfaadoor", sum := "9e74c3151e44961a63b60b8dde0a70e8d7b7beacc8a26e35864c13883ef53ed5", func := "loop.example/g00537/laws.FnExactCheckOnce", spec := "fnExactCheckOnce", inPlace := ["internal/abi.NoEscape", "internal/bytealg.MakeNoZero"], unfollowed := true, recurses := true, named := ["loop.example/g00537/impl.pieceWeights"], apart := false, laid := [("loop.example/g00537/impl.pieceWeights", laid_loop_example_g00537_impl_pieceWeights)] }
def FnExactCheckOnceSaid : Prop := fnExactCheckOnceRow.holds Tryd.pinned (OpenSpec.ofChange fnExactCheckOnceSpec)

/-- ITS FALSE NEIGHBOUR: 'it returns false'. Refute it at one input. -/
def fnExactCheckOnceWrong : ChangeSpec := { name := "fnExactCheckOnce", vars := ["loop.example/g00537/impl.pieceWeights"], fn := fun _ => fun
  | [d1, d2, d3, g1] => { results := [.lit (.bool false)], args := [d1, d2, d3], vars := [g1] }
  | _ => none }
def FnExactCheckOnceWrongFalsely : Prop := fnExactCheckOnceRow.holds Tryd.pinned (OpenSpec.ofChange fnExactCheckOnceWrong)

/-- 'laws.FnExactPublicFrom': WHATEVER THE INPUT: true; the input reads as it did. -/
def fnExactPublicFromSpec : ChangeSpec := { name := "fnExactPublicFrom", vars := ["loop.example/g00537/impl.pieceWeights"], fn := fun _ => fun
  | [d1, d2, g1] => { results := [.lit (.bool true)], args := [d1, d2], vars := [g1] }
  | _ => none }
def fnExactPublicFromRow : OpenClaim := { program := "ytphbcndboegnfaadoor", sum := "9e74c3151e44961a63b60b8dde0a70e8d7b7beacc8a26e35864c13883ef53ed5", func := "loop.example/g00537/laws.FnExactPublicFrom", spec := "fnExactPublicFrom", inPlace := ["internal/abi.NoEscape", "internal/bytealg.MakeNoZero"], unfollowed := true, recurses := true, named := ["loop.example/g00537/impl.pieceWeights"], apart := false, laid := [("loop.example/g00537/impl.pieceWeights", laid_loop_example_g00537_impl_pieceWeights)] }
def FnExactPublicFromSaid : Prop := fnExactPublicFromRow.holds Tryd.pinned (OpenSpec.ofChange fnExactPublicFromSpec)

/-- ITS FALSE NEIGHBOUR: 'it returns false'. Refute it at one input. -/
def fnExactPublicFromWrong : ChangeSpec := { name := "fnExactPublicFrom", vars := ["loop.example/g00537/impl.pieceWeights"], fn := fun _ => fun
  | [d1, d2, g1] => { results := [.lit (.bool false)], args := [d1, d2], vars := [g1] }
  | _ => none }
def FnExactPublicFromWrongFalsely : Prop := fnExactPublicFromRow.holds Tryd.pinned (OpenSpec.ofChange fnExactPublicFromWrong)

/- THE SECOND FORM. 'bulk': how many values and letters a reading holds, each counted each time it is reached (what is shared counts as often as it is met; a slice's spare places count too). A statement '..UptoSaid' is the law's where the arguments, and the package variables that the reading takes, are together of bulk at most 1048576: NARROWER than '..Said'. Prove '..Said' where nothing that the law and all that it calls make is longer than what came in: it says more and counts as full. Else prove '..UptoSaid'. A law counts once. -/
mutual
def uptoBulk {H : Type} : DataW H → Nat
  | .lit (.string bytes) => bytes.length + 1
  | .lit _ => 1
  | .nil => 1
  | .ptr d => uptoBulk d + 1
  | .slice elems spare => uptoBulkAll elems + uptoBulkAll spare + 1
  | .agg parts => uptoBulkAll parts + 1
  | .iface _ d => uptoBulk d + 1
  | .map entries => uptoBulkEntries entries + 1
  | .held _ => 1
def uptoBulkAll {H : Type} : List (DataW H) → Nat
  | [] => 0
  | d :: r => uptoBulk d + uptoBulkAll r
def uptoBulkEntries {H : Type} : List (Lit × DataW H) → Nat
  | [] => 0
  | x :: r => uptoBulkEntry x + uptoBulkEntries r
def uptoBulkEntry {H : Type} : Lit × DataW H → Nat
  | (.string bytes, d) => bytes.length + uptoBulk d + 1
  | (_, d) => uptoBulk d + 1
 end
def uptoSmall : (H : Type) → List (DataW H) → Bool := fun _ ds => decide (uptoBulkAll ds ≤ 1048576)
def OpenSpec.upto (s : _root_.Go.ChangeSpec) : _root_.Go.OpenSpec := { _root_.Go.OpenSpec.ofChange s with cond := some uptoSmall }

/-- 'laws.FnOnce', WHERE WHAT IT READS IS OF BULK AT MOST 1048576: true; the input reads as it did. -/
def fnOnceUptoRow : OpenClaim := { program := "ytphbcndboegnfaadoor", sum := "9e74c3151e44961a63b60b8dde0a70e8d7b7beacc8a26e35864c13883ef53ed5", func := "loop.example/g00537/laws.FnOnce", spec := "fnOnce", inPlace := ["internal/abi.NoEscape", "internal/bytealg.MakeNoZero"], unfollowed := true, recurses := true, named := ["loop.example/g00537/impl.pieceWeights"], apart := false, laid := [("loop.example/g00537/impl.pieceWeights", laid_loop_example_g00537_impl_pieceWeights)], narrowed := true }
def FnOnceUptoSaid : Prop := fnOnceUptoRow.holds Tryd.pinned (OpenSpec.upto fnOnceSpec)

/-- 'laws.FnDigits', WHERE WHAT IT READS IS OF BULK AT MOST 1048576: true; the input reads as it did. -/
def fnDigitsUptoRow : OpenClaim := { program := "ytphbcndboegnfaadoor", sum := "9e74c3151e44961a63b60b8dde0a70e8d7b7beacc8a26e35864c13883ef53ed5", func := "loop.example/g00537/laws.FnDigits", spec := "fnDigits", unfollowed := true, recurses := true, named := ["loop.example/g00537/impl.pieceWeights"], apart := false, laid := [("loop.example/g00537/impl.pieceWeights", laid_loop_example_g00537_impl_pieceWeights)], narrowed := true }
def FnDigitsUptoSaid : Prop := fnDigitsUptoRow.holds Tryd.pinned (OpenSpec.upto fnDigitsSpec)

/-- 'laws.FnExactChainOf', WHERE WHAT IT READS IS OF BULK AT MOST 1048576: true; the input reads as it did. -/
def fnExactChainOfUptoRow : OpenClaim := { program := "ytphbcndboegnfaadoor", sum := "9e74c3151e44961a63b60b8dde0a70e8d7b7beacc8a26e35864c13883ef53ed5", func := "loop.example/g00537/laws.FnExactChainOf", spec := "fnExactChainOf", unfollowed := true, recurses := true, named := ["loop.example/g00537/impl.pieceWeights"], apart := false, laid := [("loop.example/g00537/impl.pieceWeights", laid_loop_example_g00537_impl_pieceWeights)], narrowed := true }
def FnExactChainOfUptoSaid : Prop := fnExactChainOfUptoRow.holds Tryd.pinned (OpenSpec.upto fnExactChainOfSpec)

/-- 'laws.FnExactDigitsOf', WHERE WHAT IT READS IS OF BULK AT MOST 1048576: true; the input reads as it did. -/
def fnExactDigitsOfUptoRow : OpenClaim := { program := "ytphbcndboegnfaadoor", sum := "9e74c3151e44961a63b60b8dde0a70e8d7b7beacc8a26e35864c13883ef53ed5", func := "loop.example/g00537/laws.FnExactDigitsOf", spec := "fnExactDigitsOf", named := ["loop.example/g00537/impl.pieceWeights"], apart := false, laid := [("loop.example/g00537/impl.pieceWeights", laid_loop_example_g00537_impl_pieceWeights)], narrowed := true }
def FnExactDigitsOfUptoSaid : Prop := fnExactDigitsOfUptoRow.holds Tryd.pinned (OpenSpec.upto fnExactDigitsOfSpec)

/-- 'laws.FnExactKeyParts', WHERE WHAT IT READS IS OF BULK AT MOST 1048576: true; the input reads as it did. -/
def fnExactKeyPartsUptoRow : OpenClaim := { program := "ytphbcndboegnfaadoor", sum := "9e74c3151e44961a63b60b8dde0a70e8d7b7beacc8a26e35864c13883ef53ed5", func := "loop.example/g00537/laws.FnExactKeyParts", spec := "fnExactKeyParts", named := ["loop.example/g00537/impl.pieceWeights"], apart := false, laid := [("loop.example/g00537/impl.pieceWeights", laid_loop_example_g00537_impl_pieceWeights)], narrowed := true }
def FnExactKeyPartsUptoSaid : Prop := fnExactKeyPartsUptoRow.holds Tryd.pinned (OpenSpec.upto fnExactKeyPartsSpec)

/-- 'laws.FnExactPublicOf', WHERE WHAT IT READS IS OF BULK AT MOST 1048576: true; the input reads as it did. -/
def fnExactPublicOfUptoRow : OpenClaim := { program := "ytphbcndboegnfaadoor", sum := "9e74c3151e44961a63b60b8dde0a70e8d7b7beacc8a26e35864c13883ef53ed5", func := "loop.example/g00537/laws.FnExactPublicOf", spec := "fnExactPublicOf", inPlace := ["internal/abi.NoEscape", "internal/bytealg.MakeNoZero"], unfollowed := true, recurses := true, named := ["loop.example/g00537/impl.pieceWeights"], apart := false, laid := [("loop.example/g00537/impl.pieceWeights", laid_loop_example_g00537_impl_pieceWeights)], narrowed := true }
def FnExactPublicOfUptoSaid : Prop := fnExactPublicOfUptoRow.holds Tryd.pinned (OpenSpec.upto fnExactPublicOfSpec)

/-- 'laws.FnExactSignOnce', WHERE WHAT IT READS IS OF BULK AT MOST 1048576: true; the input reads as it did. -/
def fnExactSignOnceUptoRow : OpenClaim := { program := "ytphbcndboegnfaadoor", sum := "9e74c3151e44961a63b60b8dde0a70e8d7b7beacc8a26e35864c13883ef53ed5", func := "loop.example/g00537/laws.FnExactSignOnce", spec := "fnExactSignOnce", unfollowed := true, recurses := true, named := ["loop.example/g00537/impl.pieceWeights"], apart := false, laid := [("loop.example/g00537/impl.pieceWeights", laid_loop_example_g00537_impl_pieceWeights)], narrowed := true }
def FnExactSignOnceUptoSaid : Prop := fnExactSignOnceUptoRow.holds Tryd.pinned (OpenSpec.upto fnExactSignOnceSpec)

/-- 'laws.FnExactCheckOnce', WHERE WHAT IT READS IS OF BULK AT MOST 1048576: true; the input reads as it did. -/
def fnExactCheckOnceUptoRow : OpenClaim := { program := "ytphbcndboegnfaadoor", sum := "9e74c3151e44961a63b60b8dde0a70e8d7b7beacc8a26e35864c13883ef53ed5", func := "loop.example/g00537/laws.FnExactCheckOnce", spec := "fnExactCheckOnce", inPlace := ["internal/abi.NoEscape", "internal/bytealg.MakeNoZero"], unfollowed := true, recurses := true, named := ["loop.example/g00537/impl.pieceWeights"], apart := false, laid := [("loop.example/g00537/impl.pieceWeights", laid_loop_example_g00537_impl_pieceWeights)], narrowed := true }
def FnExactCheckOnceUptoSaid : Prop := fnExactCheckOnceUptoRow.holds Tryd.pinned (OpenSpec.upto fnExactCheckOnceSpec)

/-- 'laws.FnExactPublicFrom', WHERE WHAT IT READS IS OF BULK AT MOST 1048576: true; the input reads as it did. -/
def fnExactPublicFromUptoRow : OpenClaim := { program := "ytphbcndboegnfaadoor", sum := "9e74c3151e44961a63b60b8dde0a70e8d7b7beacc8a26e35864c13883ef53ed5", func := "loop.example/g00537/laws.FnExactPublicFrom", spec := "fnExactPublicFrom", inPlace := ["internal/abi.NoEscape", "internal/bytealg.MakeNoZero"], unfollowed := true, recurses := true, named := ["loop.example/g00537/impl.pieceWeights"], apart := false, laid := [("loop.example/g00537/impl.pieceWeights", laid_loop_example_g00537_impl_pieceWeights)], narrowed := true }
def FnExactPublicFromUptoSaid : Prop := fnExactPublicFromUptoRow.holds Tryd.pinned (OpenSpec.upto fnExactPublicFromSpec)

end Rows
end Go.Proofs.YtphbcndboegnfaaDoor
