/-
  DERIVED. GIVEN WITH THE SEED: THE CARDS: each row of YtggpecddhileoaaDoorRows.lean that lists a variable, with what it lists TIED to the program's text (the seventh form; the later family's looks); each row that meets fmt, with fmt's text TOLD by the authors' own Lean function (tested against real Go, not proved from fmt's source: count such statements apart). THE CARD IS WHAT COUNTS. Prove the row's statement (the work); the ties are given (YtggpecddhileoaaDoorTie.lean); close each card by the builder's one call (the guide's Derived/Test/ToyasCard.lean, 'card_holds'). Laid BY PROGRAM, IN A SANDBOX (cutbox-door.mjs). By AI agents, Wed Nov 11 2026. No macro, syntax, notation, axiom, sorry.
-/
import Derived.Test.YtggpecddhileoaaDoorRows
import GoSem.ClaimSeven
namespace Go.Proofs.YtggpecddhileoaaDoor
namespace Rows

/-- THE TIED CARD OF 'laws.FnTokens'. -/
def fnTokensCard : Claim7 := { stood := { row := fnTokensRow, standIns := [], harness := (true, "7d83f5908eb5bdb6eb4a8f9407ee2254edf9bb62eeb3d98d85ae731871cda1d6"), looks := false }, kinds := [], alts := [], laidByText := true, laidKinds := [.data], laidTests := true, laidLooks := .later }
def FnTokensCardSaid : Prop := Claim7.holds Tryd.pinned (.plain (OpenSpec.ofChange fnTokensSpec)) fnTokensCard

/-- THE TIED CARD OF 'laws.FnExactReadTokens'. -/
def fnExactReadTokensCard : Claim7 := { stood := { row := fnExactReadTokensRow, standIns := [], harness := (true, "7d83f5908eb5bdb6eb4a8f9407ee2254edf9bb62eeb3d98d85ae731871cda1d6"), looks := false }, kinds := [], alts := [], laidByText := true, laidKinds := [.data], laidTests := true, laidLooks := .later }
def FnExactReadTokensCardSaid : Prop := Claim7.holds Tryd.pinned (.plain (OpenSpec.ofChange fnExactReadTokensSpec)) fnExactReadTokensCard

/-- THE TIED CARD OF 'laws.FnExactTokensText'. -/
def fnExactTokensTextCard : Claim7 := { stood := { row := fnExactTokensTextRow, standIns := [], harness := (true, "7d83f5908eb5bdb6eb4a8f9407ee2254edf9bb62eeb3d98d85ae731871cda1d6"), looks := false }, kinds := [], alts := [], laidByText := true, laidKinds := [.data], laidTests := true, laidLooks := .later }
def FnExactTokensTextCardSaid : Prop := Claim7.holds Tryd.pinned (.plain (OpenSpec.ofChange fnExactTokensTextSpec)) fnExactTokensTextCard

/-- THE TIED CARD OF 'laws.FnExactGoodTokens'. -/
def fnExactGoodTokensCard : Claim7 := { stood := { row := fnExactGoodTokensRow, standIns := [], harness := (true, "7d83f5908eb5bdb6eb4a8f9407ee2254edf9bb62eeb3d98d85ae731871cda1d6"), looks := false }, kinds := [], alts := [], laidByText := true, laidKinds := [.data], laidTests := true, laidLooks := .later }
def FnExactGoodTokensCardSaid : Prop := Claim7.holds Tryd.pinned (.plain (OpenSpec.ofChange fnExactGoodTokensSpec)) fnExactGoodTokensCard

/-- THE SECOND FORM's CARD OF 'laws.FnTokens'. -/
def fnTokensUptoCard : Claim7 := { stood := { row := fnTokensUptoRow, standIns := [], harness := (true, "7d83f5908eb5bdb6eb4a8f9407ee2254edf9bb62eeb3d98d85ae731871cda1d6"), looks := false }, kinds := [], alts := [], laidByText := true, laidKinds := [.data], laidTests := true, laidLooks := .later }
def FnTokensUptoCardSaid : Prop := Claim7.holds Tryd.pinned (.plain (OpenSpec.upto fnTokensSpec)) fnTokensUptoCard

/-- THE SECOND FORM's CARD OF 'laws.FnExactReadTokens'. -/
def fnExactReadTokensUptoCard : Claim7 := { stood := { row := fnExactReadTokensUptoRow, standIns := [], harness := (true, "7d83f5908eb5bdb6eb4a8f9407ee2254edf9bb62eeb3d98d85ae731871cda1d6"), looks := false }, kinds := [], alts := [], laidByText := true, laidKinds := [.data], laidTests := true, laidLooks := .later }
def FnExactReadTokensUptoCardSaid : Prop := Claim7.holds Tryd.pinned (.plain (OpenSpec.upto fnExactReadTokensSpec)) fnExactReadTokensUptoCard

/-- THE SECOND FORM's CARD OF 'laws.FnExactTokensText'. -/
def fnExactTokensTextUptoCard : Claim7 := { stood := { row := fnExactTokensTextUptoRow, standIns := [], harness := (true, "7d83f5908eb5bdb6eb4a8f9407ee2254edf9bb62eeb3d98d85ae731871cda1d6"), looks := false }, kinds := [], alts := [], laidByText := true, laidKinds := [.data], laidTests := true, laidLooks := .later }
def FnExactTokensTextUptoCardSaid : Prop := Claim7.holds Tryd.pinned (.plain (OpenSpec.upto fnExactTokensTextSpec)) fnExactTokensTextUptoCard

/-- THE SECOND FORM's CARD OF 'laws.FnExactGoodTokens'. -/
def fnExactGoodTokensUptoCard : Claim7 := { stood := { row := fnExactGoodTokensUptoRow, standIns := [], harness := (true, "7d83f5908eb5bdb6eb4a8f9407ee2254edf9bb62eeb3d98d85ae731871cda1d6"), looks := false }, kinds := [], alts := [], laidByText := true, laidKinds := [.data], laidTests := true, laidLooks := .later }
def FnExactGoodTokensUptoCardSaid : Prop := Claim7.holds Tryd.pinned (.plain (OpenSpec.upto fnExactGoodTokensSpec)) fnExactGoodTokensUptoCard
end Rows
end Go.Proofs.YtggpecddhileoaaDoor
