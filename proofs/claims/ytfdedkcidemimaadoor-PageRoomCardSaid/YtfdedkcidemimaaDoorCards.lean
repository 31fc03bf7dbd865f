/-
  DERIVED. GIVEN WITH THE SEED: THE CARDS: each row of YtfdedkcidemimaaDoorRows.lean that lists a variable, with what it lists TIED to the program's text (the seventh form; the later family's looks); each row that meets fmt, with fmt's text TOLD by the authors' own Lean function (tested against real Go, not proved from fmt's source: count such statements apart). THE CARD IS WHAT COUNTS. Prove the row's statement (the work); the ties are given (YtfdedkcidemimaaDoorTie.lean); close each card by the builder's one call (the guide's Derived/Test/ToyasCard.lean, 'card_holds'). Laid BY PROGRAM, IN A SANDBOX (cutbox-door.mjs). By AI agents, Wed Nov 11 2026. No macro, syntax, notation, axiom, sorry.
-/
import Derived.Test.YtfdedkcidemimaaDoorRows
import GoSem.ClaimSeven
namespace Go.Proofs.YtfdedkcidemimaaDoor
namespace Rows

/-- THE TIED CARD OF 'tabellionlaw37.PageLooks'. -/
def pageLooksCard : Claim7 := { stood := { row := pageLooksRow, standIns := [], harness := (true, "03589be18b2784a498d379326769d285c0b65706ba98c450eba7fe41d8e642f8"), looks := false }, kinds := [], alts := [], laidByText := true, laidKinds := [.data], laidTests := true, laidLooks := .later }
def PageLooksCardSaid : Prop := Claim7.holds Tryd.pinned (.plain (OpenSpec.ofChange pageLooksSpec)) pageLooksCard

/-- THE TIED CARD OF 'tabellionlaw37.PageMakes'. -/
def pageMakesCard : Claim7 := { stood := { row := pageMakesRow, standIns := [], harness := (true, "03589be18b2784a498d379326769d285c0b65706ba98c450eba7fe41d8e642f8"), looks := false }, kinds := [], alts := [], laidByText := true, laidKinds := [.data], laidTests := true, laidLooks := .later }
def PageMakesCardSaid : Prop := Claim7.holds Tryd.pinned (.plain (OpenSpec.ofChange pageMakesSpec)) pageMakesCard

/-- THE TIED CARD OF 'tabellionlaw37.PageChanges'. -/
def pageChangesCard : Claim7 := { stood := { row := pageChangesRow, standIns := [], harness := (true, "03589be18b2784a498d379326769d285c0b65706ba98c450eba7fe41d8e642f8"), looks := false }, kinds := [], alts := [], laidByText := true, laidKinds := [.data], laidTests := true, laidLooks := .later }
def PageChangesCardSaid : Prop := Claim7.holds Tryd.pinned (.plain (OpenSpec.ofChange pageChangesSpec)) pageChangesCard

/-- THE TIED CARD OF 'tabellionlaw37.PageBack'. -/
def pageBackCard : Claim7 := { stood := { row := pageBackRow, standIns := [], harness := (true, "03589be18b2784a498d379326769d285c0b65706ba98c450eba7fe41d8e642f8"), looks := false }, kinds := [], alts := [], laidByText := true, laidKinds := [.data], laidTests := true, laidLooks := .later }
def PageBackCardSaid : Prop := Claim7.holds Tryd.pinned (.plain (OpenSpec.ofChange pageBackSpec)) pageBackCard

/-- THE TIED CARD OF 'tabellionlaw37.PageOthers'. -/
def pageOthersCard : Claim7 := { stood := { row := pageOthersRow, standIns := [], harness := (true, "03589be18b2784a498d379326769d285c0b65706ba98c450eba7fe41d8e642f8"), looks := false }, kinds := [], alts := [], laidByText := true, laidKinds := [.data], laidTests := true, laidLooks := .later }
def PageOthersCardSaid : Prop := Claim7.holds Tryd.pinned (.plain (OpenSpec.ofChange pageOthersSpec)) pageOthersCard

/-- THE TIED CARD OF 'tabellionlaw37.PageRoom'. -/
def pageRoomCard : Claim7 := { stood := { row := pageRoomRow, standIns := [], harness := (true, "03589be18b2784a498d379326769d285c0b65706ba98c450eba7fe41d8e642f8"), looks := false }, kinds := [], alts := [], laidByText := true, laidKinds := [.data], laidTests := true, laidLooks := .later }
def PageRoomCardSaid : Prop := Claim7.holds Tryd.pinned (.plain (OpenSpec.ofChange pageRoomSpec)) pageRoomCard

/-- THE SECOND FORM's CARD OF 'tabellionlaw37.PageLooks'. -/
def pageLooksUptoCard : Claim7 := { stood := { row := pageLooksUptoRow, standIns := [], harness := (true, "03589be18b2784a498d379326769d285c0b65706ba98c450eba7fe41d8e642f8"), looks := false }, kinds := [], alts := [], laidByText := true, laidKinds := [.data], laidTests := true, laidLooks := .later }
def PageLooksUptoCardSaid : Prop := Claim7.holds Tryd.pinned (.plain (OpenSpec.upto pageLooksSpec)) pageLooksUptoCard

/-- THE SECOND FORM's CARD OF 'tabellionlaw37.PageMakes'. -/
def pageMakesUptoCard : Claim7 := { stood := { row := pageMakesUptoRow, standIns := [], harness := (true, "03589be18b2784a498d379326769d285c0b65706ba98c450eba7fe41d8e642f8"), looks := false }, kinds := [], alts := [], laidByText := true, laidKinds := [.data], laidTests := true, laidLooks := .later }
def PageMakesUptoCardSaid : Prop := Claim7.holds Tryd.pinned (.plain (OpenSpec.upto pageMakesSpec)) pageMakesUptoCard

/-- THE SECOND FORM's CARD OF 'tabellionlaw37.PageChanges'. -/
def pageChangesUptoCard : Claim7 := { stood := { row := pageChangesUptoRow, standIns := [], harness := (true, "03589be18b2784a498d379326769d285c0b65706ba98c450eba7fe41d8e642f8"), looks := false }, kinds := [], alts := [], laidByText := true, laidKinds := [.data], laidTests := true, laidLooks := .later }
def PageChangesUptoCardSaid : Prop := Claim7.holds Tryd.pinned (.plain (OpenSpec.upto pageChangesSpec)) pageChangesUptoCard

/-- THE SECOND FORM's CARD OF 'tabellionlaw37.PageBack'. -/
def pageBackUptoCard : Claim7 := { stood := { row := pageBackUptoRow, standIns := [], harness := (true, "03589be18b2784a498d379326769d285c0b65706ba98c450eba7fe41d8e642f8"), looks := false }, kinds := [], alts := [], laidByText := true, laidKinds := [.data], laidTests := true, laidLooks := .later }
def PageBackUptoCardSaid : Prop := Claim7.holds Tryd.pinned (.plain (OpenSpec.upto pageBackSpec)) pageBackUptoCard

/-- THE SECOND FORM's CARD OF 'tabellionlaw37.PageOthers'. -/
def pageOthersUptoCard : Claim7 := { stood := { row := pageOthersUptoRow, standIns := [], harness := (true, "03589be18b2784a498d379326769d285c0b65706ba98c450eba7fe41d8e642f8"), looks := false }, kinds := [], alts := [], laidByText := true, laidKinds := [.data], laidTests := true, laidLooks := .later }
def PageOthersUptoCardSaid : Prop := Claim7.holds Tryd.pinned (.plain (OpenSpec.upto pageOthersSpec)) pageOthersUptoCard

/-- THE SECOND FORM's CARD OF 'tabellionlaw37.PageRoom'. -/
def pageRoomUptoCard : Claim7 := { stood := { row := pageRoomUptoRow, standIns := [], harness := (true, "03589be18b2784a498d379326769d285c0b65706ba98c450eba7fe41d8e642f8"), looks := false }, kinds := [], alts := [], laidByText := true, laidKinds := [.data], laidTests := true, laidLooks := .later }
def PageRoomUptoCardSaid : Prop := Claim7.holds Tryd.pinned (.plain (OpenSpec.upto pageRoomSpec)) pageRoomUptoCard
end Rows
end Go.Proofs.YtfdedkcidemimaaDoor
