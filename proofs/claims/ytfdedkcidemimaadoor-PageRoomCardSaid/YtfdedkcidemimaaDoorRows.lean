/-
  NARROWER THAN 'FOR EVERY INPUT', by the rows' own cells (each row's printed sentence says how): PageLooks: laid · PageMakes: laid · PageChanges: laid · PageBack: laid · PageOthers: laid · PageRoom: laid.
  DERIVED. THE GIVEN ROWS OF THIS SEAT. 6 by the template 'for every input the law returns true; each argument reads behind the call as it read before'; 0 by the template 'total and deterministic' (their statements: YtfdedkcidemimaaDoorTotals.lean).
  GIVEN WITH THE SEED: the statements are not yours to turn. If you find one false, say at which input.
  Laid BY PROGRAM, IN A SANDBOX (cutbox-rows.mjs): the forced cells as the released guide's own fill.sh prints them over the translation 4e1970de1f0839a6… (all of the seat's roots in one cut). By AI agents, Wed Nov 11 2026. No macro, syntax, notation, axiom, sorry.
-/
import Derived.Test.YtfdedkcidemimaaDoorChecked
import GoSem.Claim
import GoSem.ClaimJoined
import GoSem.ClaimMapViews
import Derived.JoinedTies
import Derived.KernelRfl
namespace Go.Proofs.YtfdedkcidemimaaDoor
/- THE CELL 'sum', in the pinned program and in every row, IS THE sha256 OF THE DUMP (.gsa) THAT YtfdedkcidemimaaDoorProg.lean LOADS. Nothing in Lean hashes anything: it is a label: what it is worth is what the hold of that sum in a sandbox is worth. -/
noncomputable def Tryd.pinned : Pinned := { name := "ytfdedkcidemimaadoor", sum := "4e1970de1f0839a6330ad823b421042036d15cfc555cd9c9b778a55a6f380cdc", checked := Tryd.checked }
namespace Rows
def none {H : Type} : Left H := { results := [], args := [] }

/- WHAT THE LISTED PACKAGE-LEVEL VARIABLES READ AS WHEN THE CALL BEGINS. Each datum BY PROGRAM (the guide's laid-datum.mjs) off the statement by which the dump's own 'gosem.cut.vars' lays the variable. In a bare row this is a premise. The card (YtfdedkcidemimaaDoorCards.lean) ties it to the program's text. -/
def laid_tabellion_octet_shifted {H : Type} : DataW H := .agg [.lit (.int .u32 0), .lit (.int .u32 498536548), .lit (.int .u32 997073096), .lit (.int .u32 651767980), .lit (.int .u32 1994146192), .lit (.int .u32 1802195444), .lit (.int .u32 1303535960), .lit (.int .u32 1342533948), .lit (.int .u32 3988292384), .lit (.int .u32 4027552580), .lit (.int .u32 3604390888), .lit (.int .u32 3412177804), .lit (.int .u32 2607071920), .lit (.int .u32 2262029012), .lit (.int .u32 2685067896), .lit (.int .u32 3183342108)]

/-- 'tabellionlaw37.PageLooks': WHATEVER THE INPUT: true; the input reads as it did. -/
def pageLooksSpec : ChangeSpec := { name := "pageLooks", fn := fun _ => fun
  | [d1, d2] => { results := [.lit (.bool true)], args := [d1, d2] }
  | _ => none }
def pageLooksRow : OpenClaim := { program := "ytfdedkcidemimaadoor", sum := "4e1970de1f0839a6330ad823b421042036d15cfc555cd9c9b778a55a6f380cdc", func := "tabellion/tabellionlaw37.PageLooks", spec := "pageLooks", named := ["tabellion/octet.shifted"], apart := false, laid := [("tabellion/octet.shifted", laid_tabellion_octet_shifted)] }
def PageLooksSaid : Prop := pageLooksRow.holds Tryd.pinned (OpenSpec.ofChange pageLooksSpec)

/-- ITS FALSE NEIGHBOUR: 'it returns false'. Refute it at one input. -/
def pageLooksWrong : ChangeSpec := { name := "pageLooks", fn := fun _ => fun
  | [d1, d2] => { results := [.lit (.bool false)], args := [d1, d2] }
  | _ => none }
def PageLooksWrongFalsely : Prop := pageLooksRow.holds Tryd.pinned (OpenSpec.ofChange pageLooksWrong)

/-- 'tabellionlaw37.PageMakes': WHATEVER THE INPUT: true; the input reads as it did. -/
def pageMakesSpec : ChangeSpec := { name := "pageMakes", fn := fun _ => fun
  | [d1, d2] => { results := [.lit (.bool true)], args := [d1, d2] }
  | _ => none }
def pageMakesRow : OpenClaim := { program := "ytfdedkcidemimaadoor", sum := "4e1970de1f0839a6330ad823b421042036d15cfc555cd9c9b778a55a6f380cdc", func := "tabellion/tabellionlaw37.PageMakes", spec := "pageMakes", named := ["tabellion/octet.shifted"], apart := false, laid := [("tabellion/octet.shifted", laid_tabellion_octet_shifted)] }
def PageMakesSaid : Prop := pageMakesRow.holds Tryd.pinned (OpenSpec.ofChange pageMakesSpec)

/-- ITS FALSE NEIGHBOUR: 'it returns false'. Refute it at one input. -/
def pageMakesWrong : ChangeSpec := { name := "pageMakes", fn := fun _ => fun
  | [d1, d2] => { results := [.lit (.bool false)], args := [d1, d2] }
  | _ => none }
def PageMakesWrongFalsely : Prop := pageMakesRow.holds Tryd.pinned (OpenSpec.ofChange pageMakesWrong)

/-- 'tabellionlaw37.PageChanges': WHATEVER THE INPUT: true; the input reads as it did. -/
def pageChangesSpec : ChangeSpec := { name := "pageChanges", fn := fun _ => fun
  | [d1, d2, d3] => { results := [.lit (.bool true)], args := [d1, d2, d3] }
  | _ => none }
def pageChangesRow : OpenClaim := { program := "ytfdedkcidemimaadoor", sum := "4e1970de1f0839a6330ad823b421042036d15cfc555cd9c9b778a55a6f380cdc", func := "tabellion/tabellionlaw37.PageChanges", spec := "pageChanges", inPlace := ["slices.overlaps[string]"], named := ["tabellion/octet.shifted"], apart := false, laid := [("tabellion/octet.shifted", laid_tabellion_octet_shifted)] }
def PageChangesSaid : Prop := pageChangesRow.holds Tryd.pinned (OpenSpec.ofChange pageChangesSpec)

/-- ITS FALSE NEIGHBOUR: 'it returns false'. Refute it at one input. -/
def pageChangesWrong : ChangeSpec := { name := "pageChanges", fn := fun _ => fun
  | [d1, d2, d3] => { results := [.lit (.bool false)], args := [d1, d2, d3] }
  | _ => none }
def PageChangesWrongFalsely : Prop := pageChangesRow.holds Tryd.pinned (OpenSpec.ofChange pageChangesWrong)

/-- 'tabellionlaw37.PageBack': WHATEVER THE INPUT: true; the input reads as it did. -/
def pageBackSpec : ChangeSpec := { name := "pageBack", fn := fun _ => fun
  | [d1, d2, d3] => { results := [.lit (.bool true)], args := [d1, d2, d3] }
  | _ => none }
def pageBackRow : OpenClaim := { program := "ytfdedkcidemimaadoor", sum := "4e1970de1f0839a6330ad823b421042036d15cfc555cd9c9b778a55a6f380cdc", func := "tabellion/tabellionlaw37.PageBack", spec := "pageBack", inPlace := ["slices.overlaps[string]"], named := ["tabellion/octet.shifted"], apart := false, laid := [("tabellion/octet.shifted", laid_tabellion_octet_shifted)] }
def PageBackSaid : Prop := pageBackRow.holds Tryd.pinned (OpenSpec.ofChange pageBackSpec)

/-- ITS FALSE NEIGHBOUR: 'it returns false'. Refute it at one input. -/
def pageBackWrong : ChangeSpec := { name := "pageBack", fn := fun _ => fun
  | [d1, d2, d3] => { results := [.lit (.bool false)], args := [d1, d2, d3] }
  | _ => none }
def PageBackWrongFalsely : Prop := pageBackRow.holds Tryd.pinned (OpenSpec.ofChange pageBackWrong)

/-- 'tabellionlaw37.PageOthers': WHATEVER THE INPUT: true; the input reads as it did. -/
def pageOthersSpec : ChangeSpec := { name := "pageOthers", fn := fun _ => fun
  | [d1, d2, d3] => { results := [.lit (.bool true)], args := [d1, d2, d3] }
  | _ => none }
def pageOthersRow : OpenClaim := { program := "ytfdedkcidemimaadoor", sum := "4e1970de1f0839a6330ad823b421042036d15cfc555cd9c9b778a55a6f380cdc", func := "tabellion/tabellionlaw37.PageOthers", spec := "pageOthers", inPlace := ["slices.overlaps[string]"], named := ["tabellion/octet.shifted"], apart := false, laid := [("tabellion/octet.shifted", laid_tabellion_octet_shifted)] }
def PageOthersSaid : Prop := pageOthersRow.holds Tryd.pinned (OpenSpec.ofChange pageOthersSpec)

/-- ITS FALSE NEIGHBOUR: 'it returns false'. Refute it at one input. -/
def pageOthersWrong : ChangeSpec := { name := "pageOthers", fn := fun _ => fun
  | [d1, d2, d3] => { results := [.lit (.bool false)], args := [d1, d2, d3] }
  | _ => none }
def PageOthersWrongFalsely : Prop := pageOthersRow.holds Tryd.pinned (OpenSpec.ofChange pageOthersWrong)

/-- 'tabellionlaw37.PageRoom': WHATEVER THE INPUT: true; the input reads as it did. -/
def pageRoomSpec : ChangeSpec := { name := "pageRoom", fn := fun _ => fun
  | [d1, d2, d3] => { results := [.lit (.bool true)], args := [d1, d2, d3] }
  | _ => none }
def pageRoomRow : OpenClaim := { program := "ytfdedkcidemimaadoor", sum := "4e1970de1f0839a6330ad823b421042036d15cfc555cd9c9b778a55a6f380cdc", func := "tabellion/tabellionlaw37.PageRoom", spec := "pageRoom", named := ["tabellion/octet.shifted"], apart := false, laid := [("tabellion/octet.shifted", laid_tabellion_octet_shifted)] }
def PageRoomSaid : Prop := pageRoomRow.holds Tryd.pinned (OpenSpec.ofChange pageRoomSpec)

/-- ITS FALSE NEIGHBOUR: 'it returns false'. Refute it at one input. -/
def pageRoomWrong : ChangeSpec := { name := "pageRoom", fn := fun _ => fun
  | [d1, d2, d3] => { results := [.lit (.bool false)], args := [d1, d2, d3] }
  | _ => none }
def PageRoomWrongFalsely : Prop := pageRoomRow.holds Tryd.pinned (OpenSpec.ofChange pageRoomWrong)

/- THE SECOND FORM. 'bulk': how many values and letters a reading holds, each counted each time it is reached (what is shared counts as often as it is met; a slice's spare places count too). A statement '..UptoSaid' is the law's where the arguments, and the package variables that the reading takes, are together of bulk at most 1048576: NARROWER than '..Said'. Prove '..Said' where nothing that the law and all that it calls make is longer than what came in: it says more and counts as full. Else prove '..UptoSaid'. A law counts once. -/
mutual
def uptoBulk {H : Type} : DataW H → Nat
  | .lit (.string bytes) => bytes.length + 1
  | .lit _ => 1
  | .nil => 1
  | .ptr d => uptoBulk d + 1
  | .slice elems spare => uptoBulkAll elems + uptoBulkAll spare + 1
  | .agg parts => uptoBulkAll parts + 1
  | .iface _ d => uptoBulk d + 1
  | .map entries => uptoBulkEntries entries + 1
  | .held _ => 1
def uptoBulkAll {H : Type} : List (DataW H) → Nat
  | [] => 0
  | d :: r => uptoBulk d + uptoBulkAll r
def uptoBulkEntries {H : Type} : List (Lit × DataW H) → Nat
  | [] => 0
  | x :: r => uptoBulkEntry x + uptoBulkEntries r
def uptoBulkEntry {H : Type} : Lit × DataW H → Nat
  | (.string bytes, d) => bytes.length + uptoBulk d + 1
  | (_, d) => uptoBulk d + 1
 end
def uptoSmall : (H : Type) → List (DataW H) → Bool := fun _ ds => decide (uptoBulkAll ds ≤ 1048576)
def OpenSpec.upto (s : _root_.Go.ChangeSpec) : _root_.Go.OpenSpec := { _root_.Go.OpenSpec.ofChange s with cond := some uptoSmall }

/-- 'tabellionlaw37.PageLooks', WHERE WHAT IT READS IS OF BULK AT MOST 1048576: true; the input reads as it did. -/
def pageLooksUptoRow : OpenClaim := { program := "ytfdedkcidemimaadoor", sum := "4e1970de1f0839a6330ad823b421042036d15cfc555cd9c9b778a55a6f380cdc", func := "tabellion/tabellionlaw37.PageLooks", spec := "pageLooks", named := ["tabellion/octet.shifted"], apart := false, laid := [("tabellion/octet.shifted", laid_tabellion_octet_shifted)], narrowed := true }
def PageLooksUptoSaid : Prop := pageLooksUptoRow.holds Tryd.pinned (OpenSpec.upto pageLooksSpec)

/-- 'tabellionlaw37.PageMakes', WHERE WHAT IT READS IS OF BULK AT MOST 1048576: true; the input reads as it did. -/
def pageMakesUptoRow : OpenClaim := { program := "ytfdedkcidemimaadoor", sum := "4e1970de1f0839a6330ad823b421042036d15cfc555cd9c9b778a55a6f380cdc", func := "tabellion/tabellionlaw37.PageMakes", spec := "pageMakes", named := ["tabellion/octet.shifted"], apart := false, laid := [("tabellion/octet.shifted", laid_tabellion_octet_shifted)], narrowed := true }
def PageMakesUptoSaid : Prop := pageMakesUptoRow.holds Tryd.pinned (OpenSpec.upto pageMakesSpec)

/-- 'tabellionlaw37.PageChanges', WHERE WHAT IT READS IS OF BULK AT MOST 1048576: true; the input reads as it did. -/
def pageChangesUptoRow : OpenClaim := { program := "ytfdedkcidemimaadoor", sum := "4e1970de1f0839a6330ad823b421042036d15cfc555cd9c9b778a55a6f380cdc", func := "tabellion/tabellionlaw37.PageChanges", spec := "pageChanges", inPlace := ["slices.overlaps[string]"], named := ["tabellion/octet.shifted"], apart := false, laid := [("tabellion/octet.shifted", laid_tabellion_octet_shifted)], narrowed := true }
def PageChangesUptoSaid : Prop := pageChangesUptoRow.holds Tryd.pinned (OpenSpec.upto pageChangesSpec)

/-- 'tabellionlaw37.PageBack', WHERE WHAT IT READS IS OF BULK AT MOST 1048576: true; the input reads as it did. -/
def pageBackUptoRow : OpenClaim := { program := "ytfdedkcidemimaadoor", sum := "4e1970de1f0839a6330ad823b421042036d15cfc555cd9c9b778a55a6f380cdc", func := "tabellion/tabellionlaw37.PageBack", spec := "pageBack", inPlace := ["slices.overlaps[string]"], named := ["tabellion/octet.shifted"], apart := false, laid := [("tabellion/octet.shifted", laid_tabellion_octet_shifted)], narrowed := true }
def PageBackUptoSaid : Prop := pageBackUptoRow.holds Tryd.pinned (OpenSpec.upto pageBackSpec)

/-- 'tabellionlaw37.PageOthers', WHERE WHAT IT READS IS OF BULK AT MOST 1048576: true; the input reads as it did. -/
def pageOthersUptoRow : OpenClaim := { program := "ytfdedkcidemimaadoor", sum := "4e1970de1f0839a6330ad823b421042036d15cfc555cd9c9b778a55a6f380cdc", func := "tabellion/tabellionlaw37.PageOthers", spec := "pageOthers", inPlace := ["slices.overlaps[string]"], named := ["tabellion/octet.shifted"], apart := false, laid := [("tabellion/octet.shifted", laid_tabellion_octet_shifted)], narrowed := true }
def PageOthersUptoSaid : Prop := pageOthersUptoRow.holds Tryd.pinned (OpenSpec.upto pageOthersSpec)

/-- 'tabellionlaw37.PageRoom', WHERE WHAT IT READS IS OF BULK AT MOST 1048576: true; the input reads as it did. -/
def pageRoomUptoRow : OpenClaim := { program := "ytfdedkcidemimaadoor", sum := "4e1970de1f0839a6330ad823b421042036d15cfc555cd9c9b778a55a6f380cdc", func := "tabellion/tabellionlaw37.PageRoom", spec := "pageRoom", named := ["tabellion/octet.shifted"], apart := false, laid := [("tabellion/octet.shifted", laid_tabellion_octet_shifted)], narrowed := true }
def PageRoomUptoSaid : Prop := pageRoomUptoRow.holds Tryd.pinned (OpenSpec.upto pageRoomSpec)

end Rows
end Go.Proofs.YtfdedkcidemimaaDoor
