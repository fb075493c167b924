/-
  DERIVED. GIVEN WITH THE SEED: THE CARDS: each row of YtgbnmokajaehhaaDoorRows.lean that lists a variable, with what it lists TIED to the program's text (the seventh form; the later family's looks); each row that meets fmt, with fmt's text TOLD by the authors' own Lean function (tested against real Go, not proved from fmt's source: count such statements apart). THE CARD IS WHAT COUNTS. Prove the row's statement (the work); the ties are given (YtgbnmokajaehhaaDoorTie.lean); close each card by the builder's one call (the guide's Derived/Test/ToyasCard.lean, 'card_holds'). Laid BY PROGRAM, IN A SANDBOX (cutbox-door.mjs). By AI agents, Wed Nov 11 2026. No macro, syntax, notation, axiom, sorry.
-/
import Derived.Test.YtgbnmokajaehhaaDoorRows
import GoSem.ClaimSeven
namespace Go.Proofs.YtgbnmokajaehhaaDoor
namespace Rows

/-- THE TIED CARD OF 'wharfagelaw05.NameTells'. -/
def nameTellsCard : Claim7 := { stood := { row := nameTellsRow, standIns := [], harness := (true, "0f6fd7afc126a30b5aa732e13ae61b63903befd9a8b33df0307502933967588f"), looks := true }, kinds := [], alts := [], laidByText := true, laidKinds := [.data, .data, .data, .data, .sentinel, .sentinel, .pinned], laidTests := true, laidLooks := .later }
def NameTellsCardSaid : Prop := Claim7.holds Tryd.pinned (.plain (OpenSpec.ofChange nameTellsSpec)) nameTellsCard

/-- THE TIED CARD OF 'wharfagelaw05.NameNumbers'. -/
def nameNumbersCard : Claim7 := { stood := { row := nameNumbersRow, standIns := [], harness := (true, "0f6fd7afc126a30b5aa732e13ae61b63903befd9a8b33df0307502933967588f"), looks := true }, kinds := [], alts := [], laidByText := true, laidKinds := [.data, .data, .data, .data, .sentinel, .sentinel, .pinned], laidTests := true, laidLooks := .later }
def NameNumbersCardSaid : Prop := Claim7.holds Tryd.pinned (.plain (OpenSpec.ofChange nameNumbersSpec)) nameNumbersCard

/-- THE TIED CARD OF 'wharfagelaw05.NameBack'. -/
def nameBackCard : Claim7 := { stood := { row := nameBackRow, standIns := [], harness := (true, "0f6fd7afc126a30b5aa732e13ae61b63903befd9a8b33df0307502933967588f"), looks := true }, kinds := [], alts := [], laidByText := true, laidKinds := [.data, .data, .data, .data, .sentinel, .sentinel, .pinned], laidTests := true, laidLooks := .later }
def NameBackCardSaid : Prop := Claim7.holds Tryd.pinned (.plain (OpenSpec.ofChange nameBackSpec)) nameBackCard

/-- THE TIED CARD OF 'wharfagetop.TopTelegram'. -/
def topTelegramCard : Claim7 := { stood := { row := topTelegramRow, standIns := [], harness := (true, "0f6fd7afc126a30b5aa732e13ae61b63903befd9a8b33df0307502933967588f"), looks := true }, kinds := [], alts := [], laidByText := true, laidKinds := [.data, .data, .data, .data, .sentinel, .sentinel, .pinned], laidTests := true, laidLooks := .later }
def TopTelegramCardSaid : Prop := Claim7.holds Tryd.pinned (.plain (OpenSpec.ofChange topTelegramSpec)) topTelegramCard

/-- THE SECOND FORM's CARD OF 'wharfagelaw05.NameTells'. -/
def nameTellsUptoCard : Claim7 := { stood := { row := nameTellsUptoRow, standIns := [], harness := (true, "0f6fd7afc126a30b5aa732e13ae61b63903befd9a8b33df0307502933967588f"), looks := true }, kinds := [], alts := [], laidByText := true, laidKinds := [.data, .data, .data, .data, .sentinel, .sentinel, .pinned], laidTests := true, laidLooks := .later }
def NameTellsUptoCardSaid : Prop := Claim7.holds Tryd.pinned (.plain (OpenSpec.upto nameTellsSpec)) nameTellsUptoCard

/-- THE SECOND FORM's CARD OF 'wharfagelaw05.NameNumbers'. -/
def nameNumbersUptoCard : Claim7 := { stood := { row := nameNumbersUptoRow, standIns := [], harness := (true, "0f6fd7afc126a30b5aa732e13ae61b63903befd9a8b33df0307502933967588f"), looks := true }, kinds := [], alts := [], laidByText := true, laidKinds := [.data, .data, .data, .data, .sentinel, .sentinel, .pinned], laidTests := true, laidLooks := .later }
def NameNumbersUptoCardSaid : Prop := Claim7.holds Tryd.pinned (.plain (OpenSpec.upto nameNumbersSpec)) nameNumbersUptoCard

/-- THE SECOND FORM's CARD OF 'wharfagelaw05.NameBack'. -/
def nameBackUptoCard : Claim7 := { stood := { row := nameBackUptoRow, standIns := [], harness := (true, "0f6fd7afc126a30b5aa732e13ae61b63903befd9a8b33df0307502933967588f"), looks := true }, kinds := [], alts := [], laidByText := true, laidKinds := [.data, .data, .data, .data, .sentinel, .sentinel, .pinned], laidTests := true, laidLooks := .later }
def NameBackUptoCardSaid : Prop := Claim7.holds Tryd.pinned (.plain (OpenSpec.upto nameBackSpec)) nameBackUptoCard

/-- THE SECOND FORM's CARD OF 'wharfagetop.TopTelegram'. -/
def topTelegramUptoCard : Claim7 := { stood := { row := topTelegramUptoRow, standIns := [], harness := (true, "0f6fd7afc126a30b5aa732e13ae61b63903befd9a8b33df0307502933967588f"), looks := true }, kinds := [], alts := [], laidByText := true, laidKinds := [.data, .data, .data, .data, .sentinel, .sentinel, .pinned], laidTests := true, laidLooks := .later }
def TopTelegramUptoCardSaid : Prop := Claim7.holds Tryd.pinned (.plain (OpenSpec.upto topTelegramSpec)) topTelegramUptoCard
end Rows
end Go.Proofs.YtgbnmokajaehhaaDoor
