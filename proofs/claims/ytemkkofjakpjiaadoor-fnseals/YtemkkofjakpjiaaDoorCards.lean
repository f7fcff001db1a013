/-
  DERIVED. GIVEN WITH THE SEED: THE CARDS: each row of YtemkkofjakpjiaaDoorRows.lean that lists a variable, with what it lists TIED to the program's text (the seventh form; the later family's looks); each row that meets fmt, with fmt's text TOLD by the authors' own Lean function (tested against real Go, not proved from fmt's source: count such statements apart). THE CARD IS WHAT COUNTS. Prove the row's statement (the work); the ties are given (YtemkkofjakpjiaaDoorTie.lean); close each card by the builder's one call (the guide's Derived/Test/ToyasCard.lean, 'card_holds'). Laid BY PROGRAM, IN A SANDBOX (cutbox-door.mjs). By AI agents, Wed Nov 11 2026. No macro, syntax, notation, axiom, sorry.
-/
import Derived.Test.YtemkkofjakpjiaaDoorRows
import GoSem.ClaimSeven
namespace Go.Proofs.YtemkkofjakpjiaaDoor
namespace Rows

/-- THE TIED CARD OF 'laws.FnOnce'. -/
def fnOnceCard : Claim7 := { stood := { row := fnOnceRow, standIns := [], harness := (true, "2884d156143bd8c36ba81c591b1e82613db2c4e25845aad58e702045a6b23f99"), looks := false }, kinds := [], alts := [], laidByText := true, laidKinds := [.data], laidTests := true, laidLooks := .later }
def FnOnceCardSaid : Prop := Claim7.holds Tryd.pinned (.plain (OpenSpec.ofChange fnOnceSpec)) fnOnceCard

/-- THE TIED CARD OF 'laws.FnSeals'. -/
def fnSealsCard : Claim7 := { stood := { row := fnSealsRow, standIns := [], harness := (true, "2884d156143bd8c36ba81c591b1e82613db2c4e25845aad58e702045a6b23f99"), looks := false }, kinds := [], alts := [], laidByText := true, laidKinds := [.data], laidTests := true, laidLooks := .later }
def FnSealsCardSaid : Prop := Claim7.holds Tryd.pinned (.plain (OpenSpec.ofChange fnSealsSpec)) fnSealsCard

/-- THE TIED CARD OF 'laws.FnTops'. -/
def fnTopsCard : Claim7 := { stood := { row := fnTopsRow, standIns := [], harness := (true, "2884d156143bd8c36ba81c591b1e82613db2c4e25845aad58e702045a6b23f99"), looks := false }, kinds := [], alts := [], laidByText := true, laidKinds := [.data], laidTests := true, laidLooks := .later }
def FnTopsCardSaid : Prop := Claim7.holds Tryd.pinned (.plain (OpenSpec.ofChange fnTopsSpec)) fnTopsCard

/-- THE TIED CARD OF 'laws.FnExactCheckOnce'. -/
def fnExactCheckOnceCard : Claim7 := { stood := { row := fnExactCheckOnceRow, standIns := [], harness := (true, "2884d156143bd8c36ba81c591b1e82613db2c4e25845aad58e702045a6b23f99"), looks := false }, kinds := [], alts := [], laidByText := true, laidKinds := [.data], laidTests := true, laidLooks := .later }
def FnExactCheckOnceCardSaid : Prop := Claim7.holds Tryd.pinned (.plain (OpenSpec.ofChange fnExactCheckOnceSpec)) fnExactCheckOnceCard

/-- THE TIED CARD OF 'laws.FnExactPublicFrom'. -/
def fnExactPublicFromCard : Claim7 := { stood := { row := fnExactPublicFromRow, standIns := [], harness := (true, "2884d156143bd8c36ba81c591b1e82613db2c4e25845aad58e702045a6b23f99"), looks := false }, kinds := [], alts := [], laidByText := true, laidKinds := [.data], laidTests := true, laidLooks := .later }
def FnExactPublicFromCardSaid : Prop := Claim7.holds Tryd.pinned (.plain (OpenSpec.ofChange fnExactPublicFromSpec)) fnExactPublicFromCard

/-- THE TIED CARD OF 'laws.FnExactTopOf'. -/
def fnExactTopOfCard : Claim7 := { stood := { row := fnExactTopOfRow, standIns := [], harness := (true, "2884d156143bd8c36ba81c591b1e82613db2c4e25845aad58e702045a6b23f99"), looks := false }, kinds := [], alts := [], laidByText := true, laidKinds := [.data], laidTests := true, laidLooks := .later }
def FnExactTopOfCardSaid : Prop := Claim7.holds Tryd.pinned (.plain (OpenSpec.ofChange fnExactTopOfSpec)) fnExactTopOfCard

/-- THE TIED CARD OF 'laws.FnExactWayOf'. -/
def fnExactWayOfCard : Claim7 := { stood := { row := fnExactWayOfRow, standIns := [], harness := (true, "2884d156143bd8c36ba81c591b1e82613db2c4e25845aad58e702045a6b23f99"), looks := false }, kinds := [], alts := [], laidByText := true, laidKinds := [.data], laidTests := true, laidLooks := .later }
def FnExactWayOfCardSaid : Prop := Claim7.holds Tryd.pinned (.plain (OpenSpec.ofChange fnExactWayOfSpec)) fnExactWayOfCard

/-- THE TIED CARD OF 'laws.FnExactSealText'. -/
def fnExactSealTextCard : Claim7 := { stood := { row := fnExactSealTextRow, standIns := [], harness := (true, "2884d156143bd8c36ba81c591b1e82613db2c4e25845aad58e702045a6b23f99"), looks := false }, kinds := [], alts := [], laidByText := true, laidKinds := [.data], laidTests := true, laidLooks := .later }
def FnExactSealTextCardSaid : Prop := Claim7.holds Tryd.pinned (.plain (OpenSpec.ofChange fnExactSealTextSpec)) fnExactSealTextCard

/-- THE TIED CARD OF 'laws.FnExactCheckSeal'. -/
def fnExactCheckSealCard : Claim7 := { stood := { row := fnExactCheckSealRow, standIns := [], harness := (true, "2884d156143bd8c36ba81c591b1e82613db2c4e25845aad58e702045a6b23f99"), looks := false }, kinds := [], alts := [], laidByText := true, laidKinds := [.data], laidTests := true, laidLooks := .later }
def FnExactCheckSealCardSaid : Prop := Claim7.holds Tryd.pinned (.plain (OpenSpec.ofChange fnExactCheckSealSpec)) fnExactCheckSealCard

/-- THE TIED CARD OF 'laws.FnExactLeafOf'. -/
def fnExactLeafOfCard : Claim7 := { stood := { row := fnExactLeafOfRow, standIns := [], harness := (true, "2884d156143bd8c36ba81c591b1e82613db2c4e25845aad58e702045a6b23f99"), looks := false }, kinds := [], alts := [], laidByText := true, laidKinds := [.data], laidTests := true, laidLooks := .later }
def FnExactLeafOfCardSaid : Prop := Claim7.holds Tryd.pinned (.plain (OpenSpec.ofChange fnExactLeafOfSpec)) fnExactLeafOfCard

/-- THE TIED CARD OF 'laws.FnExactTopFrom'. -/
def fnExactTopFromCard : Claim7 := { stood := { row := fnExactTopFromRow, standIns := [], harness := (true, "2884d156143bd8c36ba81c591b1e82613db2c4e25845aad58e702045a6b23f99"), looks := false }, kinds := [], alts := [], laidByText := true, laidKinds := [.data], laidTests := true, laidLooks := .later }
def FnExactTopFromCardSaid : Prop := Claim7.holds Tryd.pinned (.plain (OpenSpec.ofChange fnExactTopFromSpec)) fnExactTopFromCard

/-- THE SECOND FORM's CARD OF 'laws.FnOnce'. -/
def fnOnceUptoCard : Claim7 := { stood := { row := fnOnceUptoRow, standIns := [], harness := (true, "2884d156143bd8c36ba81c591b1e82613db2c4e25845aad58e702045a6b23f99"), looks := false }, kinds := [], alts := [], laidByText := true, laidKinds := [.data], laidTests := true, laidLooks := .later }
def FnOnceUptoCardSaid : Prop := Claim7.holds Tryd.pinned (.plain (OpenSpec.upto fnOnceSpec)) fnOnceUptoCard

/-- THE SECOND FORM's CARD OF 'laws.FnSeals'. -/
def fnSealsUptoCard : Claim7 := { stood := { row := fnSealsUptoRow, standIns := [], harness := (true, "2884d156143bd8c36ba81c591b1e82613db2c4e25845aad58e702045a6b23f99"), looks := false }, kinds := [], alts := [], laidByText := true, laidKinds := [.data], laidTests := true, laidLooks := .later }
def FnSealsUptoCardSaid : Prop := Claim7.holds Tryd.pinned (.plain (OpenSpec.upto fnSealsSpec)) fnSealsUptoCard

/-- THE SECOND FORM's CARD OF 'laws.FnTops'. -/
def fnTopsUptoCard : Claim7 := { stood := { row := fnTopsUptoRow, standIns := [], harness := (true, "2884d156143bd8c36ba81c591b1e82613db2c4e25845aad58e702045a6b23f99"), looks := false }, kinds := [], alts := [], laidByText := true, laidKinds := [.data], laidTests := true, laidLooks := .later }
def FnTopsUptoCardSaid : Prop := Claim7.holds Tryd.pinned (.plain (OpenSpec.upto fnTopsSpec)) fnTopsUptoCard

/-- THE SECOND FORM's CARD OF 'laws.FnExactCheckOnce'. -/
def fnExactCheckOnceUptoCard : Claim7 := { stood := { row := fnExactCheckOnceUptoRow, standIns := [], harness := (true, "2884d156143bd8c36ba81c591b1e82613db2c4e25845aad58e702045a6b23f99"), looks := false }, kinds := [], alts := [], laidByText := true, laidKinds := [.data], laidTests := true, laidLooks := .later }
def FnExactCheckOnceUptoCardSaid : Prop := Claim7.holds Tryd.pinned (.plain (OpenSpec.upto fnExactCheckOnceSpec)) fnExactCheckOnceUptoCard

/-- THE SECOND FORM's CARD OF 'laws.FnExactPublicFrom'. -/
def fnExactPublicFromUptoCard : Claim7 := { stood := { row := fnExactPublicFromUptoRow, standIns := [], harness := (true, "2884d156143bd8c36ba81c591b1e82613db2c4e25845aad58e702045a6b23f99"), looks := false }, kinds := [], alts := [], laidByText := true, laidKinds := [.data], laidTests := true, laidLooks := .later }
def FnExactPublicFromUptoCardSaid : Prop := Claim7.holds Tryd.pinned (.plain (OpenSpec.upto fnExactPublicFromSpec)) fnExactPublicFromUptoCard

/-- THE SECOND FORM's CARD OF 'laws.FnExactTopOf'. -/
def fnExactTopOfUptoCard : Claim7 := { stood := { row := fnExactTopOfUptoRow, standIns := [], harness := (true, "2884d156143bd8c36ba81c591b1e82613db2c4e25845aad58e702045a6b23f99"), looks := false }, kinds := [], alts := [], laidByText := true, laidKinds := [.data], laidTests := true, laidLooks := .later }
def FnExactTopOfUptoCardSaid : Prop := Claim7.holds Tryd.pinned (.plain (OpenSpec.upto fnExactTopOfSpec)) fnExactTopOfUptoCard

/-- THE SECOND FORM's CARD OF 'laws.FnExactWayOf'. -/
def fnExactWayOfUptoCard : Claim7 := { stood := { row := fnExactWayOfUptoRow, standIns := [], harness := (true, "2884d156143bd8c36ba81c591b1e82613db2c4e25845aad58e702045a6b23f99"), looks := false }, kinds := [], alts := [], laidByText := true, laidKinds := [.data], laidTests := true, laidLooks := .later }
def FnExactWayOfUptoCardSaid : Prop := Claim7.holds Tryd.pinned (.plain (OpenSpec.upto fnExactWayOfSpec)) fnExactWayOfUptoCard

/-- THE SECOND FORM's CARD OF 'laws.FnExactSealText'. -/
def fnExactSealTextUptoCard : Claim7 := { stood := { row := fnExactSealTextUptoRow, standIns := [], harness := (true, "2884d156143bd8c36ba81c591b1e82613db2c4e25845aad58e702045a6b23f99"), looks := false }, kinds := [], alts := [], laidByText := true, laidKinds := [.data], laidTests := true, laidLooks := .later }
def FnExactSealTextUptoCardSaid : Prop := Claim7.holds Tryd.pinned (.plain (OpenSpec.upto fnExactSealTextSpec)) fnExactSealTextUptoCard

/-- THE SECOND FORM's CARD OF 'laws.FnExactCheckSeal'. -/
def fnExactCheckSealUptoCard : Claim7 := { stood := { row := fnExactCheckSealUptoRow, standIns := [], harness := (true, "2884d156143bd8c36ba81c591b1e82613db2c4e25845aad58e702045a6b23f99"), looks := false }, kinds := [], alts := [], laidByText := true, laidKinds := [.data], laidTests := true, laidLooks := .later }
def FnExactCheckSealUptoCardSaid : Prop := Claim7.holds Tryd.pinned (.plain (OpenSpec.upto fnExactCheckSealSpec)) fnExactCheckSealUptoCard

/-- THE SECOND FORM's CARD OF 'laws.FnExactLeafOf'. -/
def fnExactLeafOfUptoCard : Claim7 := { stood := { row := fnExactLeafOfUptoRow, standIns := [], harness := (true, "2884d156143bd8c36ba81c591b1e82613db2c4e25845aad58e702045a6b23f99"), looks := false }, kinds := [], alts := [], laidByText := true, laidKinds := [.data], laidTests := true, laidLooks := .later }
def FnExactLeafOfUptoCardSaid : Prop := Claim7.holds Tryd.pinned (.plain (OpenSpec.upto fnExactLeafOfSpec)) fnExactLeafOfUptoCard

/-- THE SECOND FORM's CARD OF 'laws.FnExactTopFrom'. -/
def fnExactTopFromUptoCard : Claim7 := { stood := { row := fnExactTopFromUptoRow, standIns := [], harness := (true, "2884d156143bd8c36ba81c591b1e82613db2c4e25845aad58e702045a6b23f99"), looks := false }, kinds := [], alts := [], laidByText := true, laidKinds := [.data], laidTests := true, laidLooks := .later }
def FnExactTopFromUptoCardSaid : Prop := Claim7.holds Tryd.pinned (.plain (OpenSpec.upto fnExactTopFromSpec)) fnExactTopFromUptoCard
end Rows
end Go.Proofs.YtemkkofjakpjiaaDoor
