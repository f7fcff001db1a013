/-
  NARROWER THAN 'FOR EVERY INPUT', by the rows' own cells (each row's printed sentence says how): FnUnlike: laid · FnExactRootOf: laid · FnExactProveKey: laid · FnExactCheckKey: laid · FnExactUnlikeShown: laid · FnExactPiecesOf: laid · FnExactCheckPieces: loops, laid.
  DERIVED. THE GIVEN ROWS OF THIS SEAT. 7 by the template 'for every input the law returns true; each argument reads behind the call as it read before'; 0 by the template 'total and deterministic' (their statements: YtgjcegmjhkehnaaDoorTotals.lean).
  GIVEN WITH THE SEED: the statements are not yours to turn. If you find one false, say at which input.
  Laid BY PROGRAM, IN A SANDBOX (cutbox-rows.mjs): the forced cells as the released guide's own fill.sh prints them over the translation 4d0054bfe85cba14… (all of the seat's roots in one cut). By AI agents, Wed Nov 11 2026. No macro, syntax, notation, axiom, sorry.
-/
import Derived.Test.YtgjcegmjhkehnaaDoorChecked
import GoSem.Claim
import GoSem.ClaimJoined
import GoSem.ClaimMapViews
import Derived.JoinedTies
import Derived.KernelRfl
namespace Go.Proofs.YtgjcegmjhkehnaaDoor
/- THE CELL 'sum', in the pinned program and in every row, IS THE sha256 OF THE DUMP (.gsa) THAT YtgjcegmjhkehnaaDoorProg.lean LOADS. Nothing in Lean hashes anything: it is a label: what it is worth is what the hold of that sum in a sandbox is worth. -/
noncomputable def Tryd.pinned : Pinned := { name := "ytgjcegmjhkehnaadoor", sum := "4d0054bfe85cba14f1e1b9b451031f6caee995fe9f40530738d7320973ec7e20", checked := Tryd.checked }
namespace Rows
def none {H : Type} : Left H := { results := [], args := [] }

/- WHAT THE LISTED PACKAGE-LEVEL VARIABLES READ AS WHEN THE CALL BEGINS. Each datum BY PROGRAM (the guide's laid-datum.mjs) off the statement by which the dump's own 'gosem.cut.vars' lays the variable. In a bare row this is a premise. The card (YtgjcegmjhkehnaaDoorCards.lean) ties it to the program's text. -/
def laid_loop_example_g00537_impl_pieceWeights {H : Type} : DataW H := .agg [.lit (.int .i64 8), .lit (.int .i64 7), .lit (.int .i64 6), .lit (.int .i64 5), .lit (.int .i64 4), .lit (.int .i64 3), .lit (.int .i64 2), .lit (.int .i64 1)]

/-- 'laws.FnUnlike': WHATEVER THE INPUT: true; the input reads as it did. -/
def fnUnlikeSpec : ChangeSpec := { name := "fnUnlike", vars := ["loop.example/g00537/impl.pieceWeights"], fn := fun _ => fun
  | [d1, d2, g1] => { results := [.lit (.bool true)], args := [d1, d2], vars := [g1] }
  | _ => none }
def fnUnlikeRow : OpenClaim := { program := "ytgjcegmjhkehnaadoor", sum := "4d0054bfe85cba14f1e1b9b451031f6caee995fe9f40530738d7320973ec7e20", func := "loop.example/g00537/laws.FnUnlike", spec := "fnUnlike", recurses := true, named := ["loop.example/g00537/impl.pieceWeights"], apart := false, laid := [("loop.example/g00537/impl.pieceWeights", laid_loop_example_g00537_impl_pieceWeights)] }
def FnUnlikeSaid : Prop := fnUnlikeRow.holds Tryd.pinned (OpenSpec.ofChange fnUnlikeSpec)

/-- ITS FALSE NEIGHBOUR: 'it returns false'. Refute it at one input. -/
def fnUnlikeWrong : ChangeSpec := { name := "fnUnlike", vars := ["loop.example/g00537/impl.pieceWeights"], fn := fun _ => fun
  | [d1, d2, g1] => { results := [.lit (.bool false)], args := [d1, d2], vars := [g1] }
  | _ => none }
def FnUnlikeWrongFalsely : Prop := fnUnlikeRow.holds Tryd.pinned (OpenSpec.ofChange fnUnlikeWrong)

/-- 'laws.FnExactRootOf': WHATEVER THE INPUT: true; the input reads as it did. -/
def fnExactRootOfSpec : ChangeSpec := { name := "fnExactRootOf", vars := ["loop.example/g00537/impl.pieceWeights"], fn := fun _ => fun
  | [d, g1] => { results := [.lit (.bool true)], args := [d], vars := [g1] }
  | _ => none }
def fnExactRootOfRow : OpenClaim := { program := "ytgjcegmjhkehnaadoor", sum := "4d0054bfe85cba14f1e1b9b451031f6caee995fe9f40530738d7320973ec7e20", func := "loop.example/g00537/laws.FnExactRootOf", spec := "fnExactRootOf", recurses := true, named := ["loop.example/g00537/impl.pieceWeights"], apart := false, laid := [("loop.example/g00537/impl.pieceWeights", laid_loop_example_g00537_impl_pieceWeights)] }
def FnExactRootOfSaid : Prop := fnExactRootOfRow.holds Tryd.pinned (OpenSpec.ofChange fnExactRootOfSpec)

/-- ITS FALSE NEIGHBOUR: 'it returns false'. Refute it at one input. -/
def fnExactRootOfWrong : ChangeSpec := { name := "fnExactRootOf", vars := ["loop.example/g00537/impl.pieceWeights"], fn := fun _ => fun
  | [d, g1] => { results := [.lit (.bool false)], args := [d], vars := [g1] }
  | _ => none }
def FnExactRootOfWrongFalsely : Prop := fnExactRootOfRow.holds Tryd.pinned (OpenSpec.ofChange fnExactRootOfWrong)

/-- 'laws.FnExactProveKey': WHATEVER THE INPUT: true; the input reads as it did. -/
def fnExactProveKeySpec : ChangeSpec := { name := "fnExactProveKey", vars := ["loop.example/g00537/impl.pieceWeights"], fn := fun _ => fun
  | [d1, d2, g1] => { results := [.lit (.bool true)], args := [d1, d2], vars := [g1] }
  | _ => none }
def fnExactProveKeyRow : OpenClaim := { program := "ytgjcegmjhkehnaadoor", sum := "4d0054bfe85cba14f1e1b9b451031f6caee995fe9f40530738d7320973ec7e20", func := "loop.example/g00537/laws.FnExactProveKey", spec := "fnExactProveKey", recurses := true, named := ["loop.example/g00537/impl.pieceWeights"], apart := false, laid := [("loop.example/g00537/impl.pieceWeights", laid_loop_example_g00537_impl_pieceWeights)] }
def FnExactProveKeySaid : Prop := fnExactProveKeyRow.holds Tryd.pinned (OpenSpec.ofChange fnExactProveKeySpec)

/-- ITS FALSE NEIGHBOUR: 'it returns false'. Refute it at one input. -/
def fnExactProveKeyWrong : ChangeSpec := { name := "fnExactProveKey", vars := ["loop.example/g00537/impl.pieceWeights"], fn := fun _ => fun
  | [d1, d2, g1] => { results := [.lit (.bool false)], args := [d1, d2], vars := [g1] }
  | _ => none }
def FnExactProveKeyWrongFalsely : Prop := fnExactProveKeyRow.holds Tryd.pinned (OpenSpec.ofChange fnExactProveKeyWrong)

/-- 'laws.FnExactCheckKey': WHATEVER THE INPUT: true; the input reads as it did. -/
def fnExactCheckKeySpec : ChangeSpec := { name := "fnExactCheckKey", vars := ["loop.example/g00537/impl.pieceWeights"], fn := fun _ => fun
  | [d1, d2, d3, g1] => { results := [.lit (.bool true)], args := [d1, d2, d3], vars := [g1] }
  | _ => none }
def fnExactCheckKeyRow : OpenClaim := { program := "ytgjcegmjhkehnaadoor", sum := "4d0054bfe85cba14f1e1b9b451031f6caee995fe9f40530738d7320973ec7e20", func := "loop.example/g00537/laws.FnExactCheckKey", spec := "fnExactCheckKey", named := ["loop.example/g00537/impl.pieceWeights"], apart := false, laid := [("loop.example/g00537/impl.pieceWeights", laid_loop_example_g00537_impl_pieceWeights)] }
def FnExactCheckKeySaid : Prop := fnExactCheckKeyRow.holds Tryd.pinned (OpenSpec.ofChange fnExactCheckKeySpec)

/-- ITS FALSE NEIGHBOUR: 'it returns false'. Refute it at one input. -/
def fnExactCheckKeyWrong : ChangeSpec := { name := "fnExactCheckKey", vars := ["loop.example/g00537/impl.pieceWeights"], fn := fun _ => fun
  | [d1, d2, d3, g1] => { results := [.lit (.bool false)], args := [d1, d2, d3], vars := [g1] }
  | _ => none }
def FnExactCheckKeyWrongFalsely : Prop := fnExactCheckKeyRow.holds Tryd.pinned (OpenSpec.ofChange fnExactCheckKeyWrong)

/-- 'laws.FnExactUnlikeShown': WHATEVER THE INPUT: true; the input reads as it did. -/
def fnExactUnlikeShownSpec : ChangeSpec := { name := "fnExactUnlikeShown", vars := ["loop.example/g00537/impl.pieceWeights"], fn := fun _ => fun
  | [d1, d2, d3, d4, g1] => { results := [.lit (.bool true)], args := [d1, d2, d3, d4], vars := [g1] }
  | _ => none }
def fnExactUnlikeShownRow : OpenClaim := { program := "ytgjcegmjhkehnaadoor", sum := "4d0054bfe85cba14f1e1b9b451031f6caee995fe9f40530738d7320973ec7e20", func := "loop.example/g00537/laws.FnExactUnlikeShown", spec := "fnExactUnlikeShown", named := ["loop.example/g00537/impl.pieceWeights"], apart := false, laid := [("loop.example/g00537/impl.pieceWeights", laid_loop_example_g00537_impl_pieceWeights)] }
def FnExactUnlikeShownSaid : Prop := fnExactUnlikeShownRow.holds Tryd.pinned (OpenSpec.ofChange fnExactUnlikeShownSpec)

/-- ITS FALSE NEIGHBOUR: 'it returns false'. Refute it at one input. -/
def fnExactUnlikeShownWrong : ChangeSpec := { name := "fnExactUnlikeShown", vars := ["loop.example/g00537/impl.pieceWeights"], fn := fun _ => fun
  | [d1, d2, d3, d4, g1] => { results := [.lit (.bool false)], args := [d1, d2, d3, d4], vars := [g1] }
  | _ => none }
def FnExactUnlikeShownWrongFalsely : Prop := fnExactUnlikeShownRow.holds Tryd.pinned (OpenSpec.ofChange fnExactUnlikeShownWrong)

/-- 'laws.FnExactPiecesOf': WHATEVER THE INPUT: true; the input reads as it did. -/
def fnExactPiecesOfSpec : ChangeSpec := { name := "fnExactPiecesOf", vars := ["loop.example/g00537/impl.pieceWeights"], fn := fun _ => fun
  | [d1, d2, d3, g1] => { results := [.lit (.bool true)], args := [d1, d2, d3], vars := [g1] }
  | _ => none }
def fnExactPiecesOfRow : OpenClaim := { program := "ytgjcegmjhkehnaadoor", sum := "4d0054bfe85cba14f1e1b9b451031f6caee995fe9f40530738d7320973ec7e20", func := "loop.example/g00537/laws.FnExactPiecesOf", spec := "fnExactPiecesOf", unfollowed := true, recurses := true, named := ["loop.example/g00537/impl.pieceWeights"], apart := false, laid := [("loop.example/g00537/impl.pieceWeights", laid_loop_example_g00537_impl_pieceWeights)] }
def FnExactPiecesOfSaid : Prop := fnExactPiecesOfRow.holds Tryd.pinned (OpenSpec.ofChange fnExactPiecesOfSpec)

/-- ITS FALSE NEIGHBOUR: 'it returns false'. Refute it at one input. -/
def fnExactPiecesOfWrong : ChangeSpec := { name := "fnExactPiecesOf", vars := ["loop.example/g00537/impl.pieceWeights"], fn := fun _ => fun
  | [d1, d2, d3, g1] => { results := [.lit (.bool false)], args := [d1, d2, d3], vars := [g1] }
  | _ => none }
def FnExactPiecesOfWrongFalsely : Prop := fnExactPiecesOfRow.holds Tryd.pinned (OpenSpec.ofChange fnExactPiecesOfWrong)

/-- 'laws.FnExactCheckPieces': WHATEVER THE INPUT: true; the input reads as it did. -/
def fnExactCheckPiecesSpec : ChangeSpec := { name := "fnExactCheckPieces", vars := ["loop.example/g00537/impl.pieceWeights"], fn := fun _ => fun
  | [d1, d2, d3, d4, g1] => { results := [.lit (.bool true)], args := [d1, d2, d3, d4], vars := [g1] }
  | _ => none }
def fnExactCheckPiecesRow : OpenClaim := { program := "ytgjcegmjhkehnaadoor", sum := "4d0054bfe85cba14f1e1b9b451031f6caee995fe9f40530738d7320973ec7e20", func := "loop.example/g00537/laws.FnExactCheckPieces", spec := "fnExactCheckPieces", unfollowed := true, recurses := true, named := ["loop.example/g00537/impl.pieceWeights"], loops := true, apart := false, laid := [("loop.example/g00537/impl.pieceWeights", laid_loop_example_g00537_impl_pieceWeights)] }
def FnExactCheckPiecesSaid : Prop := fnExactCheckPiecesRow.holds Tryd.pinned (OpenSpec.ofChange fnExactCheckPiecesSpec)

/-- ITS FALSE NEIGHBOUR: 'it returns false'. Refute it at one input. -/
def fnExactCheckPiecesWrong : ChangeSpec := { name := "fnExactCheckPieces", vars := ["loop.example/g00537/impl.pieceWeights"], fn := fun _ => fun
  | [d1, d2, d3, d4, g1] => { results := [.lit (.bool false)], args := [d1, d2, d3, d4], vars := [g1] }
  | _ => none }
def FnExactCheckPiecesWrongFalsely : Prop := fnExactCheckPiecesRow.holds Tryd.pinned (OpenSpec.ofChange fnExactCheckPiecesWrong)

/- THE SECOND FORM. 'bulk': how many values and letters a reading holds, each counted each time it is reached (what is shared counts as often as it is met; a slice's spare places count too). A statement '..UptoSaid' is the law's where the arguments, and the package variables that the reading takes, are together of bulk at most 1048576: NARROWER than '..Said'. Prove '..Said' where nothing that the law and all that it calls make is longer than what came in: it says more and counts as full. Else prove '..UptoSaid'. A law counts once. -/
mutual
def uptoBulk {H : Type} : DataW H → Nat
  | .lit (.string bytes) => bytes.length + 1
  | .lit _ => 1
  | .nil => 1
  | .ptr d => uptoBulk d + 1
  | .slice elems spare => uptoBulkAll elems + uptoBulkAll spare + 1
  | .agg parts => uptoBulkAll parts + 1
  | .iface _ d => uptoBulk d + 1
  | .map entries => uptoBulkEntries entries + 1
  | .held _ => 1
def uptoBulkAll {H : Type} : List (DataW H) → Nat
  | [] => 0
  | d :: r => uptoBulk d + uptoBulkAll r
def uptoBulkEntries {H : Type} : List (Lit × DataW H) → Nat
  | [] => 0
  | x :: r => uptoBulkEntry x + uptoBulkEntries r
def uptoBulkEntry {H : Type} : Lit × DataW H → Nat
  | (.string bytes, d) => bytes.length + uptoBulk d + 1
  | (_, d) => uptoBulk d + 1
 end
def uptoSmall : (H : Type) → List (DataW H) → Bool := fun _ ds => decide (uptoBulkAll ds ≤ 1048576)
def OpenSpec.upto (s : _root_.Go.ChangeSpec) : _root_.Go.OpenSpec := { _root_.Go.OpenSpec.ofChange s with cond := some uptoSmall }

/-- 'laws.FnUnlike', WHERE WHAT IT READS IS OF BULK AT MOST 1048576: true; the input reads as it did. -/
def fnUnlikeUptoRow : OpenClaim := { program := "ytgjcegmjhkehnaadoor", sum := "4d0054bfe85cba14f1e1b9b451031f6caee995fe9f40530738d7320973ec7e20", func := "loop.example/g00537/laws.FnUnlike", spec := "fnUnlike", recurses := true, named := ["loop.example/g00537/impl.pieceWeights"], apart := false, laid := [("loop.example/g00537/impl.pieceWeights", laid_loop_example_g00537_impl_pieceWeights)], narrowed := true }
def FnUnlikeUptoSaid : Prop := fnUnlikeUptoRow.holds Tryd.pinned (OpenSpec.upto fnUnlikeSpec)

/-- 'laws.FnExactRootOf', WHERE WHAT IT READS IS OF BULK AT MOST 1048576: true; the input reads as it did. -/
def fnExactRootOfUptoRow : OpenClaim := { program := "ytgjcegmjhkehnaadoor", sum := "4d0054bfe85cba14f1e1b9b451031f6caee995fe9f40530738d7320973ec7e20", func := "loop.example/g00537/laws.FnExactRootOf", spec := "fnExactRootOf", recurses := true, named := ["loop.example/g00537/impl.pieceWeights"], apart := false, laid := [("loop.example/g00537/impl.pieceWeights", laid_loop_example_g00537_impl_pieceWeights)], narrowed := true }
def FnExactRootOfUptoSaid : Prop := fnExactRootOfUptoRow.holds Tryd.pinned (OpenSpec.upto fnExactRootOfSpec)

/-- 'laws.FnExactProveKey', WHERE WHAT IT READS IS OF BULK AT MOST 1048576: true; the input reads as it did. -/
def fnExactProveKeyUptoRow : OpenClaim := { program := "ytgjcegmjhkehnaadoor", sum := "4d0054bfe85cba14f1e1b9b451031f6caee995fe9f40530738d7320973ec7e20", func := "loop.example/g00537/laws.FnExactProveKey", spec := "fnExactProveKey", recurses := true, named := ["loop.example/g00537/impl.pieceWeights"], apart := false, laid := [("loop.example/g00537/impl.pieceWeights", laid_loop_example_g00537_impl_pieceWeights)], narrowed := true }
def FnExactProveKeyUptoSaid : Prop := fnExactProveKeyUptoRow.holds Tryd.pinned (OpenSpec.upto fnExactProveKeySpec)

/-- 'laws.FnExactCheckKey', WHERE WHAT IT READS IS OF BULK AT MOST 1048576: true; the input reads as it did. -/
def fnExactCheckKeyUptoRow : OpenClaim := { program := "ytgjcegmjhkehnaadoor", sum := "4d0054bfe85cba14f1e1b9b451031f6caee995fe9f40530738d7320973ec7e20", func := "loop.example/g00537/laws.FnExactCheckKey", spec := "fnExactCheckKey", named := ["loop.example/g00537/impl.pieceWeights"], apart := false, laid := [("loop.example/g00537/impl.pieceWeights", laid_loop_example_g00537_impl_pieceWeights)], narrowed := true }
def FnExactCheckKeyUptoSaid : Prop := fnExactCheckKeyUptoRow.holds Tryd.pinned (OpenSpec.upto fnExactCheckKeySpec)

/-- 'laws.FnExactUnlikeShown', WHERE WHAT IT READS IS OF BULK AT MOST 1048576: true; the input reads as it did. -/
def fnExactUnlikeShownUptoRow : OpenClaim := { program := "ytgjcegmjhkehnaadoor", sum := "4d0054bfe85cba14f1e1b9b451031f6caee995fe9f40530738d7320973ec7e20", func := "loop.example/g00537/laws.FnExactUnlikeShown", spec := "fnExactUnlikeShown", named := ["loop.example/g00537/impl.pieceWeights"], apart := false, laid := [("loop.example/g00537/impl.pieceWeights", laid_loop_example_g00537_impl_pieceWeights)], narrowed := true }
def FnExactUnlikeShownUptoSaid : Prop := fnExactUnlikeShownUptoRow.holds Tryd.pinned (OpenSpec.upto fnExactUnlikeShownSpec)

/-- 'laws.FnExactPiecesOf', WHERE WHAT IT READS IS OF BULK AT MOST 1048576: true; the input reads as it did. -/
def fnExactPiecesOfUptoRow : OpenClaim := { program := "ytgjcegmjhkehnaadoor", sum := "4d0054bfe85cba14f1e1b9b451031f6caee995fe9f40530738d7320973ec7e20", func := "loop.example/g00537/laws.FnExactPiecesOf", spec := "fnExactPiecesOf", unfollowed := true, recurses := true, named := ["loop.example/g00537/impl.pieceWeights"], apart := false, laid := [("loop.example/g00537/impl.pieceWeights", laid_loop_example_g00537_impl_pieceWeights)], narrowed := true }
def FnExactPiecesOfUptoSaid : Prop := fnExactPiecesOfUptoRow.holds Tryd.pinned (OpenSpec.upto fnExactPiecesOfSpec)

/-- 'laws.FnExactCheckPieces', WHERE WHAT IT READS IS OF BULK AT MOST 1048576: true; the input reads as it did. -/
def fnExactCheckPiecesUptoRow : OpenClaim := { program := "ytgjcegmjhkehnaadoor", sum := "4d0054bfe85cba14f1e1b9b451031f6caee995fe9f40530738d7320973ec7e20", func := "loop.example/g00537/laws.FnExactCheckPieces", spec := "fnExactCheckPieces", unfollowed := true, recurses := true, named := ["loop.example/g00537/impl.pieceWeights"], loops := true, apart := false, laid := [("loop.example/g00537/impl.pieceWeights", laid_loop_example_g00537_impl_pieceWeights)], narrowed := true }
def FnExactCheckPiecesUptoSaid : Prop := fnExactCheckPiecesUptoRow.holds Tryd.pinned (OpenSpec.upto fnExactCheckPiecesSpec)

end Rows
end Go.Proofs.YtgjcegmjhkehnaaDoor
