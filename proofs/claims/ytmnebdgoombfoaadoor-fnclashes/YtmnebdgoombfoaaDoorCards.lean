/-
  DERIVED. GIVEN WITH THE SEED: THE CARDS: each row of YtmnebdgoombfoaaDoorRows.lean that lists a variable, with what it lists TIED to the program's text (the seventh form; the later family's looks); each row that meets fmt, with fmt's text TOLD by the authors' own Lean function (tested against real Go, not proved from fmt's source: count such statements apart). THE CARD IS WHAT COUNTS. Prove the row's statement (the work); the ties are given (YtmnebdgoombfoaaDoorTie.lean); close each card by the builder's one call (the guide's Derived/Test/ToyasCard.lean, 'card_holds'). Laid BY PROGRAM, IN A SANDBOX (cutbox-door.mjs). By AI agents, Wed Nov 11 2026. No macro, syntax, notation, axiom, sorry.
-/
import Derived.Test.YtmnebdgoombfoaaDoorRows
import GoSem.ClaimSeven
namespace Go.Proofs.YtmnebdgoombfoaaDoor
namespace Rows

/-- THE TIED CARD OF 'laws.FnMixes'. -/
def fnMixesCard : Claim7 := { stood := { row := fnMixesRow, standIns := [], harness := (true, "7ac23429f70e406a5d84896cefc15a3dceb4822b3758441ada512f06b31fcccd"), looks := false }, kinds := [], alts := [], laidByText := true, laidKinds := [.data], laidTests := true, laidLooks := .later }
def FnMixesCardSaid : Prop := Claim7.holds Tryd.pinned (.plain (OpenSpec.ofChange fnMixesSpec)) fnMixesCard

/-- THE TIED CARD OF 'laws.FnClashes'. -/
def fnClashesCard : Claim7 := { stood := { row := fnClashesRow, standIns := [], harness := (true, "7ac23429f70e406a5d84896cefc15a3dceb4822b3758441ada512f06b31fcccd"), looks := false }, kinds := [], alts := [], laidByText := true, laidKinds := [.data], laidTests := true, laidLooks := .later }
def FnClashesCardSaid : Prop := Claim7.holds Tryd.pinned (.plain (OpenSpec.ofChange fnClashesSpec)) fnClashesCard

/-- THE TIED CARD OF 'laws.FnExactFeedMix'. -/
def fnExactFeedMixCard : Claim7 := { stood := { row := fnExactFeedMixRow, standIns := [], harness := (true, "7ac23429f70e406a5d84896cefc15a3dceb4822b3758441ada512f06b31fcccd"), looks := false }, kinds := [], alts := [], laidByText := true, laidKinds := [.data], laidTests := true, laidLooks := .later }
def FnExactFeedMixCardSaid : Prop := Claim7.holds Tryd.pinned (.plain (OpenSpec.ofChange fnExactFeedMixSpec)) fnExactFeedMixCard

/-- THE TIED CARD OF 'laws.FnExactDigestOf'. -/
def fnExactDigestOfCard : Claim7 := { stood := { row := fnExactDigestOfRow, standIns := [], harness := (true, "7ac23429f70e406a5d84896cefc15a3dceb4822b3758441ada512f06b31fcccd"), looks := false }, kinds := [], alts := [], laidByText := true, laidKinds := [.data], laidTests := true, laidLooks := .later }
def FnExactDigestOfCardSaid : Prop := Claim7.holds Tryd.pinned (.plain (OpenSpec.ofChange fnExactDigestOfSpec)) fnExactDigestOfCard

/-- THE TIED CARD OF 'laws.FnExactListDigest'. -/
def fnExactListDigestCard : Claim7 := { stood := { row := fnExactListDigestRow, standIns := [], harness := (true, "7ac23429f70e406a5d84896cefc15a3dceb4822b3758441ada512f06b31fcccd"), looks := false }, kinds := [], alts := [], laidByText := true, laidKinds := [.data], laidTests := true, laidLooks := .later }
def FnExactListDigestCardSaid : Prop := Claim7.holds Tryd.pinned (.plain (OpenSpec.ofChange fnExactListDigestSpec)) fnExactListDigestCard

/-- THE TIED CARD OF 'laws.FnExactClashOf'. -/
def fnExactClashOfCard : Claim7 := { stood := { row := fnExactClashOfRow, standIns := [], harness := (true, "7ac23429f70e406a5d84896cefc15a3dceb4822b3758441ada512f06b31fcccd"), looks := false }, kinds := [], alts := [], laidByText := true, laidKinds := [.data], laidTests := true, laidLooks := .later }
def FnExactClashOfCardSaid : Prop := Claim7.holds Tryd.pinned (.plain (OpenSpec.ofChange fnExactClashOfSpec)) fnExactClashOfCard

/-- THE SECOND FORM's CARD OF 'laws.FnMixes'. -/
def fnMixesUptoCard : Claim7 := { stood := { row := fnMixesUptoRow, standIns := [], harness := (true, "7ac23429f70e406a5d84896cefc15a3dceb4822b3758441ada512f06b31fcccd"), looks := false }, kinds := [], alts := [], laidByText := true, laidKinds := [.data], laidTests := true, laidLooks := .later }
def FnMixesUptoCardSaid : Prop := Claim7.holds Tryd.pinned (.plain (OpenSpec.upto fnMixesSpec)) fnMixesUptoCard

/-- THE SECOND FORM's CARD OF 'laws.FnClashes'. -/
def fnClashesUptoCard : Claim7 := { stood := { row := fnClashesUptoRow, standIns := [], harness := (true, "7ac23429f70e406a5d84896cefc15a3dceb4822b3758441ada512f06b31fcccd"), looks := false }, kinds := [], alts := [], laidByText := true, laidKinds := [.data], laidTests := true, laidLooks := .later }
def FnClashesUptoCardSaid : Prop := Claim7.holds Tryd.pinned (.plain (OpenSpec.upto fnClashesSpec)) fnClashesUptoCard

/-- THE SECOND FORM's CARD OF 'laws.FnExactFeedMix'. -/
def fnExactFeedMixUptoCard : Claim7 := { stood := { row := fnExactFeedMixUptoRow, standIns := [], harness := (true, "7ac23429f70e406a5d84896cefc15a3dceb4822b3758441ada512f06b31fcccd"), looks := false }, kinds := [], alts := [], laidByText := true, laidKinds := [.data], laidTests := true, laidLooks := .later }
def FnExactFeedMixUptoCardSaid : Prop := Claim7.holds Tryd.pinned (.plain (OpenSpec.upto fnExactFeedMixSpec)) fnExactFeedMixUptoCard

/-- THE SECOND FORM's CARD OF 'laws.FnExactDigestOf'. -/
def fnExactDigestOfUptoCard : Claim7 := { stood := { row := fnExactDigestOfUptoRow, standIns := [], harness := (true, "7ac23429f70e406a5d84896cefc15a3dceb4822b3758441ada512f06b31fcccd"), looks := false }, kinds := [], alts := [], laidByText := true, laidKinds := [.data], laidTests := true, laidLooks := .later }
def FnExactDigestOfUptoCardSaid : Prop := Claim7.holds Tryd.pinned (.plain (OpenSpec.upto fnExactDigestOfSpec)) fnExactDigestOfUptoCard

/-- THE SECOND FORM's CARD OF 'laws.FnExactListDigest'. -/
def fnExactListDigestUptoCard : Claim7 := { stood := { row := fnExactListDigestUptoRow, standIns := [], harness := (true, "7ac23429f70e406a5d84896cefc15a3dceb4822b3758441ada512f06b31fcccd"), looks := false }, kinds := [], alts := [], laidByText := true, laidKinds := [.data], laidTests := true, laidLooks := .later }
def FnExactListDigestUptoCardSaid : Prop := Claim7.holds Tryd.pinned (.plain (OpenSpec.upto fnExactListDigestSpec)) fnExactListDigestUptoCard

/-- THE SECOND FORM's CARD OF 'laws.FnExactClashOf'. -/
def fnExactClashOfUptoCard : Claim7 := { stood := { row := fnExactClashOfUptoRow, standIns := [], harness := (true, "7ac23429f70e406a5d84896cefc15a3dceb4822b3758441ada512f06b31fcccd"), looks := false }, kinds := [], alts := [], laidByText := true, laidKinds := [.data], laidTests := true, laidLooks := .later }
def FnExactClashOfUptoCardSaid : Prop := Claim7.holds Tryd.pinned (.plain (OpenSpec.upto fnExactClashOfSpec)) fnExactClashOfUptoCard
end Rows
end Go.Proofs.YtmnebdgoombfoaaDoor
