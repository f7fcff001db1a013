/-
  DERIVED. GIVEN WITH THE SEED: THE CARDS: each row of YtphbcndboegnfaaDoorRows.lean that lists a variable, with what it lists TIED to the program's text (the seventh form; the later family's looks); each row that meets fmt, with fmt's text TOLD by the authors' own Lean function (tested against real Go, not proved from fmt's source: count such statements apart). THE CARD IS WHAT COUNTS. Prove the row's statement (the work); the ties are given (YtphbcndboegnfaaDoorTie.lean); close each card by the builder's one call (the guide's Derived/Test/ToyasCard.lean, 'card_holds'). Laid BY PROGRAM, IN A SANDBOX (cutbox-door.mjs). By AI agents, Wed Nov 11 2026. No macro, syntax, notation, axiom, sorry.
-/
import Derived.Test.YtphbcndboegnfaaDoorRows
import GoSem.ClaimSeven
namespace Go.Proofs.YtphbcndboegnfaaDoor
namespace Rows

/-- THE TIED CARD OF 'laws.FnOnce'. -/
def fnOnceCard : Claim7 := { stood := { row := fnOnceRow, standIns := [], harness := (true, "9e3621f7b758bfb9667446e71e749193b7d057c7efbc1d76fa69267e4849c48f"), looks := false }, kinds := [], alts := [], laidByText := true, laidKinds := [.data], laidTests := true, laidLooks := .later }
def FnOnceCardSaid : Prop := Claim7.holds Tryd.pinned (.plain (OpenSpec.ofChange fnOnceSpec)) fnOnceCard

/-- THE TIED CARD OF 'laws.FnDigits'. -/
def fnDigitsCard : Claim7 := { stood := { row := fnDigitsRow, standIns := [], harness := (true, "9e3621f7b758bfb9667446e71e749193b7d057c7efbc1d76fa69267e4849c48f"), looks := false }, kinds := [], alts := [], laidByText := true, laidKinds := [.data], laidTests := true, laidLooks := .later }
def FnDigitsCardSaid : Prop := Claim7.holds Tryd.pinned (.plain (OpenSpec.ofChange fnDigitsSpec)) fnDigitsCard

/-- THE TIED CARD OF 'laws.FnExactChainOf'. -/
def fnExactChainOfCard : Claim7 := { stood := { row := fnExactChainOfRow, standIns := [], harness := (true, "9e3621f7b758bfb9667446e71e749193b7d057c7efbc1d76fa69267e4849c48f"), looks := false }, kinds := [], alts := [], laidByText := true, laidKinds := [.data], laidTests := true, laidLooks := .later }
def FnExactChainOfCardSaid : Prop := Claim7.holds Tryd.pinned (.plain (OpenSpec.ofChange fnExactChainOfSpec)) fnExactChainOfCard

/-- THE TIED CARD OF 'laws.FnExactDigitsOf'. -/
def fnExactDigitsOfCard : Claim7 := { stood := { row := fnExactDigitsOfRow, standIns := [], harness := (true, "9e3621f7b758bfb9667446e71e749193b7d057c7efbc1d76fa69267e4849c48f"), looks := false }, kinds := [], alts := [], laidByText := true, laidKinds := [.data], laidTests := true, laidLooks := .later }
def FnExactDigitsOfCardSaid : Prop := Claim7.holds Tryd.pinned (.plain (OpenSpec.ofChange fnExactDigitsOfSpec)) fnExactDigitsOfCard

/-- THE TIED CARD OF 'laws.FnExactKeyParts'. -/
def fnExactKeyPartsCard : Claim7 := { stood := { row := fnExactKeyPartsRow, standIns := [], harness := (true, "9e3621f7b758bfb9667446e71e749193b7d057c7efbc1d76fa69267e4849c48f"), looks := false }, kinds := [], alts := [], laidByText := true, laidKinds := [.data], laidTests := true, laidLooks := .later }
def FnExactKeyPartsCardSaid : Prop := Claim7.holds Tryd.pinned (.plain (OpenSpec.ofChange fnExactKeyPartsSpec)) fnExactKeyPartsCard

/-- THE TIED CARD OF 'laws.FnExactPublicOf'. -/
def fnExactPublicOfCard : Claim7 := { stood := { row := fnExactPublicOfRow, standIns := [], harness := (true, "9e3621f7b758bfb9667446e71e749193b7d057c7efbc1d76fa69267e4849c48f"), looks := false }, kinds := [], alts := [], laidByText := true, laidKinds := [.data], laidTests := true, laidLooks := .later }
def FnExactPublicOfCardSaid : Prop := Claim7.holds Tryd.pinned (.plain (OpenSpec.ofChange fnExactPublicOfSpec)) fnExactPublicOfCard

/-- THE TIED CARD OF 'laws.FnExactSignOnce'. -/
def fnExactSignOnceCard : Claim7 := { stood := { row := fnExactSignOnceRow, standIns := [], harness := (true, "9e3621f7b758bfb9667446e71e749193b7d057c7efbc1d76fa69267e4849c48f"), looks := false }, kinds := [], alts := [], laidByText := true, laidKinds := [.data], laidTests := true, laidLooks := .later }
def FnExactSignOnceCardSaid : Prop := Claim7.holds Tryd.pinned (.plain (OpenSpec.ofChange fnExactSignOnceSpec)) fnExactSignOnceCard

/-- THE TIED CARD OF 'laws.FnExactCheckOnce'. -/
def fnExactCheckOnceCard : Claim7 := { stood := { row := fnExactCheckOnceRow, standIns := [], harness := (true, "9e3621f7b758bfb9667446e71e749193b7d057c7efbc1d76fa69267e4849c48f"), looks := false }, kinds := [], alts := [], laidByText := true, laidKinds := [.data], laidTests := true, laidLooks := .later }
def FnExactCheckOnceCardSaid : Prop := Claim7.holds Tryd.pinned (.plain (OpenSpec.ofChange fnExactCheckOnceSpec)) fnExactCheckOnceCard

/-- THE TIED CARD OF 'laws.FnExactPublicFrom'. -/
def fnExactPublicFromCard : Claim7 := { stood := { row := fnExactPublicFromRow, standIns := [], harness := (true, "9e3621f7b758bfb9667446e71e749193b7d057c7efbc1d76fa69267e4849c48f"), looks := false }, kinds := [], alts := [], laidByText := true, laidKinds := [.data], laidTests := true, laidLooks := .later }
def FnExactPublicFromCardSaid : Prop := Claim7.holds Tryd.pinned (.plain (OpenSpec.ofChange fnExactPublicFromSpec)) fnExactPublicFromCard

/-- THE SECOND FORM's CARD OF 'laws.FnOnce'. -/
def fnOnceUptoCard : Claim7 := { stood := { row := fnOnceUptoRow, standIns := [], harness := (true, "9e3621f7b758bfb9667446e71e749193b7d057c7efbc1d76fa69267e4849c48f"), looks := false }, kinds := [], alts := [], laidByText := true, laidKinds := [.data], laidTests := true, laidLooks := .later }
def FnOnceUptoCardSaid : Prop := Claim7.holds Tryd.pinned (.plain (OpenSpec.upto fnOnceSpec)) fnOnceUptoCard

/-- THE SECOND FORM's CARD OF 'laws.FnDigits'. -/
def fnDigitsUptoCard : Claim7 := { stood := { row := fnDigitsUptoRow, standIns := [], harness := (true, "9e3621f7b758bfb9667446e71e749193b7d057c7efbc1d76fa69267e4849c48f"), looks := false }, kinds := [], alts := [], laidByText := true, laidKinds := [.data], laidTests := true, laidLooks := .later }
def FnDigitsUptoCardSaid : Prop := Claim7.holds Tryd.pinned (.plain (OpenSpec.upto fnDigitsSpec)) fnDigitsUptoCard

/-- THE SECOND FORM's CARD OF 'laws.FnExactChainOf'. -/
def fnExactChainOfUptoCard : Claim7 := { stood := { row := fnExactChainOfUptoRow, standIns := [], harness := (true, "9e3621f7b758bfb9667446e71e749193b7d057c7efbc1d76fa69267e4849c48f"), looks := false }, kinds := [], alts := [], laidByText := true, laidKinds := [.data], laidTests := true, laidLooks := .later }
def FnExactChainOfUptoCardSaid : Prop := Claim7.holds Tryd.pinned (.plain (OpenSpec.upto fnExactChainOfSpec)) fnExactChainOfUptoCard

/-- THE SECOND FORM's CARD OF 'laws.FnExactDigitsOf'. -/
def fnExactDigitsOfUptoCard : Claim7 := { stood := { row := fnExactDigitsOfUptoRow, standIns := [], harness := (true, "9e3621f7b758bfb9667446e71e749193b7d057c7efbc1d76fa69267e4849c48f"), looks := false }, kinds := [], alts := [], laidByText := true, laidKinds := [.data], laidTests := true, laidLooks := .later }
def FnExactDigitsOfUptoCardSaid : Prop := Claim7.holds Tryd.pinned (.plain (OpenSpec.upto fnExactDigitsOfSpec)) fnExactDigitsOfUptoCard

/-- THE SECOND FORM's CARD OF 'laws.FnExactKeyParts'. -/
def fnExactKeyPartsUptoCard : Claim7 := { stood := { row := fnExactKeyPartsUptoRow, standIns := [], harness := (true, "9e3621f7b758bfb9667446e71e749193b7d057c7efbc1d76fa69267e4849c48f"), looks := false }, kinds := [], alts := [], laidByText := true, laidKinds := [.data], laidTests := true, laidLooks := .later }
def FnExactKeyPartsUptoCardSaid : Prop := Claim7.holds Tryd.pinned (.plain (OpenSpec.upto fnExactKeyPartsSpec)) fnExactKeyPartsUptoCard

/-- THE SECOND FORM's CARD OF 'laws.FnExactPublicOf'. -/
def fnExactPublicOfUptoCard : Claim7 := { stood := { row := fnExactPublicOfUptoRow, standIns := [], harness := (true, "9e3621f7b758bfb9667446e71e749193b7d057c7efbc1d76fa69267e4849c48f"), looks := false }, kinds := [], alts := [], laidByText := true, laidKinds := [.data], laidTests := true, laidLooks := .later }
def FnExactPublicOfUptoCardSaid : Prop := Claim7.holds Tryd.pinned (.plain (OpenSpec.upto fnExactPublicOfSpec)) fnExactPublicOfUptoCard

/-- THE SECOND FORM's CARD OF 'laws.FnExactSignOnce'. -/
def fnExactSignOnceUptoCard : Claim7 := { stood := { row := fnExactSignOnceUptoRow, standIns := [], harness := (true, "9e3621f7b758bfb9667446e71e749193b7d057c7efbc1d76fa69267e4849c48f"), looks := false }, kinds := [], alts := [], laidByText := true, laidKinds := [.data], laidTests := true, laidLooks := .later }
def FnExactSignOnceUptoCardSaid : Prop := Claim7.holds Tryd.pinned (.plain (OpenSpec.upto fnExactSignOnceSpec)) fnExactSignOnceUptoCard

/-- THE SECOND FORM's CARD OF 'laws.FnExactCheckOnce'. -/
def fnExactCheckOnceUptoCard : Claim7 := { stood := { row := fnExactCheckOnceUptoRow, standIns := [], harness := (true, "9e3621f7b758bfb9667446e71e749193b7d057c7efbc1d76fa69267e4849c48f"), looks := false }, kinds := [], alts := [], laidByText := true, laidKinds := [.data], laidTests := true, laidLooks := .later }
def FnExactCheckOnceUptoCardSaid : Prop := Claim7.holds Tryd.pinned (.plain (OpenSpec.upto fnExactCheckOnceSpec)) fnExactCheckOnceUptoCard

/-- THE SECOND FORM's CARD OF 'laws.FnExactPublicFrom'. -/
def fnExactPublicFromUptoCard : Claim7 := { stood := { row := fnExactPublicFromUptoRow, standIns := [], harness := (true, "9e3621f7b758bfb9667446e71e749193b7d057c7efbc1d76fa69267e4849c48f"), looks := false }, kinds := [], alts := [], laidByText := true, laidKinds := [.data], laidTests := true, laidLooks := .later }
def FnExactPublicFromUptoCardSaid : Prop := Claim7.holds Tryd.pinned (.plain (OpenSpec.upto fnExactPublicFromSpec)) fnExactPublicFromUptoCard
end Rows
end Go.Proofs.YtphbcndboegnfaaDoor
