/-
  DERIVED. GIVEN WITH THE SEED: THE CARDS: each row of YtcfnclfkjmnhlaaDoorRows.lean that lists a variable, with what it lists TIED to the program's text (the seventh form; the later family's looks); each row that meets fmt, with fmt's text TOLD by the authors' own Lean function (tested against real Go, not proved from fmt's source: count such statements apart). THE CARD IS WHAT COUNTS. Prove the row's statement (the work); the ties are given (YtcfnclfkjmnhlaaDoorTie.lean); close each card by the builder's one call (the guide's Derived/Test/ToyasCard.lean, 'card_holds'). Laid BY PROGRAM, IN A SANDBOX (cutbox-door.mjs). By AI agents, Wed Nov 11 2026. No macro, syntax, notation, axiom, sorry.
-/
import Derived.Test.YtcfnclfkjmnhlaaDoorRows
import GoSem.ClaimSeven
namespace Go.Proofs.YtcfnclfkjmnhlaaDoor
namespace Rows

/-- THE TIED CARD OF 'gleanerlaw01.VarintPuts'. -/
def varintPutsCard : Claim7 := { stood := { row := varintPutsRow, standIns := [], harness := (true, "cdf13520bfe04204ecbb7092698824065404d1d4206ffb09f6c4055f099d6c88"), looks := false }, kinds := [], alts := [], laidByText := true, laidKinds := [.data, .data, .data], laidTests := true, laidLooks := .later }
def VarintPutsCardSaid : Prop := Claim7.holds Tryd.pinned (.plain (OpenSpec.ofChange varintPutsSpec)) varintPutsCard

/-- THE TIED CARD OF 'gleanerlaw01.VarintGets'. -/
def varintGetsCard : Claim7 := { stood := { row := varintGetsRow, standIns := [], harness := (true, "cdf13520bfe04204ecbb7092698824065404d1d4206ffb09f6c4055f099d6c88"), looks := false }, kinds := [], alts := [], laidByText := true, laidKinds := [.data, .data, .data], laidTests := true, laidLooks := .later }
def VarintGetsCardSaid : Prop := Claim7.holds Tryd.pinned (.plain (OpenSpec.ofChange varintGetsSpec)) varintGetsCard

/-- THE TIED CARD OF 'gleanerlaw01.VarintNumbers'. -/
def varintNumbersCard : Claim7 := { stood := { row := varintNumbersRow, standIns := [], harness := (true, "cdf13520bfe04204ecbb7092698824065404d1d4206ffb09f6c4055f099d6c88"), looks := false }, kinds := [], alts := [], laidByText := true, laidKinds := [.data, .data, .data], laidTests := true, laidLooks := .later }
def VarintNumbersCardSaid : Prop := Claim7.holds Tryd.pinned (.plain (OpenSpec.ofChange varintNumbersSpec)) varintNumbersCard

/-- THE TIED CARD OF 'gleanerlaw01.VarintBack'. -/
def varintBackCard : Claim7 := { stood := { row := varintBackRow, standIns := [], harness := (true, "cdf13520bfe04204ecbb7092698824065404d1d4206ffb09f6c4055f099d6c88"), looks := false }, kinds := [], alts := [], laidByText := true, laidKinds := [.data, .data, .data], laidTests := true, laidLooks := .later }
def VarintBackCardSaid : Prop := Claim7.holds Tryd.pinned (.plain (OpenSpec.ofChange varintBackSpec)) varintBackCard

/-- THE TIED CARD OF 'gleanerlaw01.VarintOne'. -/
def varintOneCard : Claim7 := { stood := { row := varintOneRow, standIns := [], harness := (true, "cdf13520bfe04204ecbb7092698824065404d1d4206ffb09f6c4055f099d6c88"), looks := false }, kinds := [], alts := [], laidByText := true, laidKinds := [.data, .data, .data], laidTests := true, laidLooks := .later }
def VarintOneCardSaid : Prop := Claim7.holds Tryd.pinned (.plain (OpenSpec.ofChange varintOneSpec)) varintOneCard

/-- THE TIED CARD OF 'gleanerlaw01.VarintCuts'. -/
def varintCutsCard : Claim7 := { stood := { row := varintCutsRow, standIns := [], harness := (true, "cdf13520bfe04204ecbb7092698824065404d1d4206ffb09f6c4055f099d6c88"), looks := false }, kinds := [], alts := [], laidByText := true, laidKinds := [.data, .data, .data], laidTests := true, laidLooks := .later }
def VarintCutsCardSaid : Prop := Claim7.holds Tryd.pinned (.plain (OpenSpec.ofChange varintCutsSpec)) varintCutsCard

/-- THE TIED CARD OF 'gleanerlaw01.VarintDigits'. -/
def varintDigitsCard : Claim7 := { stood := { row := varintDigitsRow, standIns := [], harness := (true, "cdf13520bfe04204ecbb7092698824065404d1d4206ffb09f6c4055f099d6c88"), looks := false }, kinds := [], alts := [], laidByText := true, laidKinds := [.data, .data, .data], laidTests := true, laidLooks := .later }
def VarintDigitsCardSaid : Prop := Claim7.holds Tryd.pinned (.plain (OpenSpec.ofChange varintDigitsSpec)) varintDigitsCard

/-- THE SECOND FORM's CARD OF 'gleanerlaw01.VarintPuts'. -/
def varintPutsUptoCard : Claim7 := { stood := { row := varintPutsUptoRow, standIns := [], harness := (true, "cdf13520bfe04204ecbb7092698824065404d1d4206ffb09f6c4055f099d6c88"), looks := false }, kinds := [], alts := [], laidByText := true, laidKinds := [.data, .data, .data], laidTests := true, laidLooks := .later }
def VarintPutsUptoCardSaid : Prop := Claim7.holds Tryd.pinned (.plain (OpenSpec.upto varintPutsSpec)) varintPutsUptoCard

/-- THE SECOND FORM's CARD OF 'gleanerlaw01.VarintGets'. -/
def varintGetsUptoCard : Claim7 := { stood := { row := varintGetsUptoRow, standIns := [], harness := (true, "cdf13520bfe04204ecbb7092698824065404d1d4206ffb09f6c4055f099d6c88"), looks := false }, kinds := [], alts := [], laidByText := true, laidKinds := [.data, .data, .data], laidTests := true, laidLooks := .later }
def VarintGetsUptoCardSaid : Prop := Claim7.holds Tryd.pinned (.plain (OpenSpec.upto varintGetsSpec)) varintGetsUptoCard

/-- THE SECOND FORM's CARD OF 'gleanerlaw01.VarintNumbers'. -/
def varintNumbersUptoCard : Claim7 := { stood := { row := varintNumbersUptoRow, standIns := [], harness := (true, "cdf13520bfe04204ecbb7092698824065404d1d4206ffb09f6c4055f099d6c88"), looks := false }, kinds := [], alts := [], laidByText := true, laidKinds := [.data, .data, .data], laidTests := true, laidLooks := .later }
def VarintNumbersUptoCardSaid : Prop := Claim7.holds Tryd.pinned (.plain (OpenSpec.upto varintNumbersSpec)) varintNumbersUptoCard

/-- THE SECOND FORM's CARD OF 'gleanerlaw01.VarintBack'. -/
def varintBackUptoCard : Claim7 := { stood := { row := varintBackUptoRow, standIns := [], harness := (true, "cdf13520bfe04204ecbb7092698824065404d1d4206ffb09f6c4055f099d6c88"), looks := false }, kinds := [], alts := [], laidByText := true, laidKinds := [.data, .data, .data], laidTests := true, laidLooks := .later }
def VarintBackUptoCardSaid : Prop := Claim7.holds Tryd.pinned (.plain (OpenSpec.upto varintBackSpec)) varintBackUptoCard

/-- THE SECOND FORM's CARD OF 'gleanerlaw01.VarintOne'. -/
def varintOneUptoCard : Claim7 := { stood := { row := varintOneUptoRow, standIns := [], harness := (true, "cdf13520bfe04204ecbb7092698824065404d1d4206ffb09f6c4055f099d6c88"), looks := false }, kinds := [], alts := [], laidByText := true, laidKinds := [.data, .data, .data], laidTests := true, laidLooks := .later }
def VarintOneUptoCardSaid : Prop := Claim7.holds Tryd.pinned (.plain (OpenSpec.upto varintOneSpec)) varintOneUptoCard

/-- THE SECOND FORM's CARD OF 'gleanerlaw01.VarintCuts'. -/
def varintCutsUptoCard : Claim7 := { stood := { row := varintCutsUptoRow, standIns := [], harness := (true, "cdf13520bfe04204ecbb7092698824065404d1d4206ffb09f6c4055f099d6c88"), looks := false }, kinds := [], alts := [], laidByText := true, laidKinds := [.data, .data, .data], laidTests := true, laidLooks := .later }
def VarintCutsUptoCardSaid : Prop := Claim7.holds Tryd.pinned (.plain (OpenSpec.upto varintCutsSpec)) varintCutsUptoCard

/-- THE SECOND FORM's CARD OF 'gleanerlaw01.VarintDigits'. -/
def varintDigitsUptoCard : Claim7 := { stood := { row := varintDigitsUptoRow, standIns := [], harness := (true, "cdf13520bfe04204ecbb7092698824065404d1d4206ffb09f6c4055f099d6c88"), looks := false }, kinds := [], alts := [], laidByText := true, laidKinds := [.data, .data, .data], laidTests := true, laidLooks := .later }
def VarintDigitsUptoCardSaid : Prop := Claim7.holds Tryd.pinned (.plain (OpenSpec.upto varintDigitsSpec)) varintDigitsUptoCard
end Rows
end Go.Proofs.YtcfnclfkjmnhlaaDoor
