/-
  DERIVED. GIVEN WITH THE SEED: THE CARDS: each row of YtgjcegmjhkehnaaDoorRows.lean that lists a variable, with what it lists TIED to the program's text (the seventh form; the later family's looks); each row that meets fmt, with fmt's text TOLD by the authors' own Lean function (tested against real Go, not proved from fmt's source: count such statements apart). THE CARD IS WHAT COUNTS. Prove the row's statement (the work); the ties are given (YtgjcegmjhkehnaaDoorTie.lean); close each card by the builder's one call (the guide's Derived/Test/ToyasCard.lean, 'card_holds'). Laid BY PROGRAM, IN A SANDBOX (cutbox-door.mjs). By AI agents, Wed Nov 11 2026. No macro, syntax, notation, axiom, sorry.
-/
import Derived.Test.YtgjcegmjhkehnaaDoorRows
import GoSem.ClaimSeven
namespace Go.Proofs.YtgjcegmjhkehnaaDoor
namespace Rows

/-- THE TIED CARD OF 'laws.FnUnlike'. -/
def fnUnlikeCard : Claim7 := { stood := { row := fnUnlikeRow, standIns := [], harness := (true, "6a0192f19508b78f2cf2192c14b3da3c87e6edc77a5cf66c790adc7c634bb338"), looks := false }, kinds := [], alts := [], laidByText := true, laidKinds := [.data], laidTests := true, laidLooks := .later }
def FnUnlikeCardSaid : Prop := Claim7.holds Tryd.pinned (.plain (OpenSpec.ofChange fnUnlikeSpec)) fnUnlikeCard

/-- THE TIED CARD OF 'laws.FnExactRootOf'. -/
def fnExactRootOfCard : Claim7 := { stood := { row := fnExactRootOfRow, standIns := [], harness := (true, "6a0192f19508b78f2cf2192c14b3da3c87e6edc77a5cf66c790adc7c634bb338"), looks := false }, kinds := [], alts := [], laidByText := true, laidKinds := [.data], laidTests := true, laidLooks := .later }
def FnExactRootOfCardSaid : Prop := Claim7.holds Tryd.pinned (.plain (OpenSpec.ofChange fnExactRootOfSpec)) fnExactRootOfCard

/-- THE TIED CARD OF 'laws.FnExactProveKey'. -/
def fnExactProveKeyCard : Claim7 := { stood := { row := fnExactProveKeyRow, standIns := [], harness := (true, "6a0192f19508b78f2cf2192c14b3da3c87e6edc77a5cf66c790adc7c634bb338"), looks := false }, kinds := [], alts := [], laidByText := true, laidKinds := [.data], laidTests := true, laidLooks := .later }
def FnExactProveKeyCardSaid : Prop := Claim7.holds Tryd.pinned (.plain (OpenSpec.ofChange fnExactProveKeySpec)) fnExactProveKeyCard

/-- THE TIED CARD OF 'laws.FnExactCheckKey'. -/
def fnExactCheckKeyCard : Claim7 := { stood := { row := fnExactCheckKeyRow, standIns := [], harness := (true, "6a0192f19508b78f2cf2192c14b3da3c87e6edc77a5cf66c790adc7c634bb338"), looks := false }, kinds := [], alts := [], laidByText := true, laidKinds := [.data], laidTests := true, laidLooks := .later }
def FnExactCheckKeyCardSaid : Prop := Claim7.holds Tryd.pinned (.plain (OpenSpec.ofChange fnExactCheckKeySpec)) fnExactCheckKeyCard

/-- THE TIED CARD OF 'laws.FnExactUnlikeShown'. -/
def fnExactUnlikeShownCard : Claim7 := { stood := { row := fnExactUnlikeShownRow, standIns := [], harness := (true, "6a0192f19508b78f2cf2192c14b3da3c87e6edc77a5cf66c790adc7c634bb338"), looks := false }, kinds := [], alts := [], laidByText := true, laidKinds := [.data], laidTests := true, laidLooks := .later }
def FnExactUnlikeShownCardSaid : Prop := Claim7.holds Tryd.pinned (.plain (OpenSpec.ofChange fnExactUnlikeShownSpec)) fnExactUnlikeShownCard

/-- THE TIED CARD OF 'laws.FnExactPiecesOf'. -/
def fnExactPiecesOfCard : Claim7 := { stood := { row := fnExactPiecesOfRow, standIns := [], harness := (true, "6a0192f19508b78f2cf2192c14b3da3c87e6edc77a5cf66c790adc7c634bb338"), looks := false }, kinds := [], alts := [], laidByText := true, laidKinds := [.data], laidTests := true, laidLooks := .later }
def FnExactPiecesOfCardSaid : Prop := Claim7.holds Tryd.pinned (.plain (OpenSpec.ofChange fnExactPiecesOfSpec)) fnExactPiecesOfCard

/-- THE TIED CARD OF 'laws.FnExactCheckPieces'. -/
def fnExactCheckPiecesCard : Claim7 := { stood := { row := fnExactCheckPiecesRow, standIns := [], harness := (true, "6a0192f19508b78f2cf2192c14b3da3c87e6edc77a5cf66c790adc7c634bb338"), looks := false }, kinds := [], alts := [], laidByText := true, laidKinds := [.data], laidTests := true, laidLooks := .later }
def FnExactCheckPiecesCardSaid : Prop := Claim7.holds Tryd.pinned (.plain (OpenSpec.ofChange fnExactCheckPiecesSpec)) fnExactCheckPiecesCard

/-- THE SECOND FORM's CARD OF 'laws.FnUnlike'. -/
def fnUnlikeUptoCard : Claim7 := { stood := { row := fnUnlikeUptoRow, standIns := [], harness := (true, "6a0192f19508b78f2cf2192c14b3da3c87e6edc77a5cf66c790adc7c634bb338"), looks := false }, kinds := [], alts := [], laidByText := true, laidKinds := [.data], laidTests := true, laidLooks := .later }
def FnUnlikeUptoCardSaid : Prop := Claim7.holds Tryd.pinned (.plain (OpenSpec.upto fnUnlikeSpec)) fnUnlikeUptoCard

/-- THE SECOND FORM's CARD OF 'laws.FnExactRootOf'. -/
def fnExactRootOfUptoCard : Claim7 := { stood := { row := fnExactRootOfUptoRow, standIns := [], harness := (true, "6a0192f19508b78f2cf2192c14b3da3c87e6edc77a5cf66c790adc7c634bb338"), looks := false }, kinds := [], alts := [], laidByText := true, laidKinds := [.data], laidTests := true, laidLooks := .later }
def FnExactRootOfUptoCardSaid : Prop := Claim7.holds Tryd.pinned (.plain (OpenSpec.upto fnExactRootOfSpec)) fnExactRootOfUptoCard

/-- THE SECOND FORM's CARD OF 'laws.FnExactProveKey'. -/
def fnExactProveKeyUptoCard : Claim7 := { stood := { row := fnExactProveKeyUptoRow, standIns := [], harness := (true, "6a0192f19508b78f2cf2192c14b3da3c87e6edc77a5cf66c790adc7c634bb338"), looks := false }, kinds := [], alts := [], laidByText := true, laidKinds := [.data], laidTests := true, laidLooks := .later }
def FnExactProveKeyUptoCardSaid : Prop := Claim7.holds Tryd.pinned (.plain (OpenSpec.upto fnExactProveKeySpec)) fnExactProveKeyUptoCard

/-- THE SECOND FORM's CARD OF 'laws.FnExactCheckKey'. -/
def fnExactCheckKeyUptoCard : Claim7 := { stood := { row := fnExactCheckKeyUptoRow, standIns := [], harness := (true, "6a0192f19508b78f2cf2192c14b3da3c87e6edc77a5cf66c790adc7c634bb338"), looks := false }, kinds := [], alts := [], laidByText := true, laidKinds := [.data], laidTests := true, laidLooks := .later }
def FnExactCheckKeyUptoCardSaid : Prop := Claim7.holds Tryd.pinned (.plain (OpenSpec.upto fnExactCheckKeySpec)) fnExactCheckKeyUptoCard

/-- THE SECOND FORM's CARD OF 'laws.FnExactUnlikeShown'. -/
def fnExactUnlikeShownUptoCard : Claim7 := { stood := { row := fnExactUnlikeShownUptoRow, standIns := [], harness := (true, "6a0192f19508b78f2cf2192c14b3da3c87e6edc77a5cf66c790adc7c634bb338"), looks := false }, kinds := [], alts := [], laidByText := true, laidKinds := [.data], laidTests := true, laidLooks := .later }
def FnExactUnlikeShownUptoCardSaid : Prop := Claim7.holds Tryd.pinned (.plain (OpenSpec.upto fnExactUnlikeShownSpec)) fnExactUnlikeShownUptoCard

/-- THE SECOND FORM's CARD OF 'laws.FnExactPiecesOf'. -/
def fnExactPiecesOfUptoCard : Claim7 := { stood := { row := fnExactPiecesOfUptoRow, standIns := [], harness := (true, "6a0192f19508b78f2cf2192c14b3da3c87e6edc77a5cf66c790adc7c634bb338"), looks := false }, kinds := [], alts := [], laidByText := true, laidKinds := [.data], laidTests := true, laidLooks := .later }
def FnExactPiecesOfUptoCardSaid : Prop := Claim7.holds Tryd.pinned (.plain (OpenSpec.upto fnExactPiecesOfSpec)) fnExactPiecesOfUptoCard

/-- THE SECOND FORM's CARD OF 'laws.FnExactCheckPieces'. -/
def fnExactCheckPiecesUptoCard : Claim7 := { stood := { row := fnExactCheckPiecesUptoRow, standIns := [], harness := (true, "6a0192f19508b78f2cf2192c14b3da3c87e6edc77a5cf66c790adc7c634bb338"), looks := false }, kinds := [], alts := [], laidByText := true, laidKinds := [.data], laidTests := true, laidLooks := .later }
def FnExactCheckPiecesUptoCardSaid : Prop := Claim7.holds Tryd.pinned (.plain (OpenSpec.upto fnExactCheckPiecesSpec)) fnExactCheckPiecesUptoCard
end Rows
end Go.Proofs.YtgjcegmjhkehnaaDoor
