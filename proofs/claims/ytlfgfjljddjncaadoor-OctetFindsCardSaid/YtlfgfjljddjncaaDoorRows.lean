/-
  NARROWER THAN 'FOR EVERY INPUT', by the rows' own cells (each row's printed sentence says how): OctetPuts: laid · OctetGets: laid · OctetTexts: laid · OctetSums: laid · OctetFinds: laid.
  DERIVED. THE GIVEN ROWS OF THIS SEAT. 5 by the template 'for every input the law returns true; each argument reads behind the call as it read before'; 0 by the template 'total and deterministic' (their statements: YtlfgfjljddjncaaDoorTotals.lean).
  GIVEN WITH THE SEED: the statements are not yours to turn. If you find one false, say at which input.
  Laid BY PROGRAM, IN A SANDBOX (cutbox-rows.mjs): the forced cells as the released guide's own fill.sh prints them over the translation 761fb07d50ac3d73… (all of the seat's roots in one cut). By AI agents, Wed Nov 11 2026. No macro, syntax, notation, axiom, sorry.
-/
import Derived.Test.YtlfgfjljddjncaaDoorChecked
import GoSem.Claim
import GoSem.ClaimJoined
import GoSem.ClaimMapViews
import Derived.JoinedTies
import Derived.KernelRfl
namespace Go.Proofs.YtlfgfjljddjncaaDoor
/- THE CELL 'sum', in the pinned program and in every row, IS THE sha256 OF THE DUMP (.gsa) THAT YtlfgfjljddjncaaDoorProg.lean LOADS. Nothing in Lean hashes anything: it is a label: what it is worth is what the hold of that sum in a sandbox is worth. -/
noncomputable def Tryd.pinned : Pinned := { name := "ytlfgfjljddjncaadoor", sum := "761fb07d50ac3d7373a54d35fc82efa4768d27ab72137c4ab7f227c8424ea4ce", checked := Tryd.checked }
namespace Rows
def none {H : Type} : Left H := { results := [], args := [] }

/- WHAT THE LISTED PACKAGE-LEVEL VARIABLES READ AS WHEN THE CALL BEGINS. Each datum BY PROGRAM (the guide's laid-datum.mjs) off the statement by which the dump's own 'gosem.cut.vars' lays the variable. In a bare row this is a premise. The card (YtlfgfjljddjncaaDoorCards.lean) ties it to the program's text. -/
def laid_tabellion_octet_shifted {H : Type} : DataW H := .agg [.lit (.int .u32 0), .lit (.int .u32 498536548), .lit (.int .u32 997073096), .lit (.int .u32 651767980), .lit (.int .u32 1994146192), .lit (.int .u32 1802195444), .lit (.int .u32 1303535960), .lit (.int .u32 1342533948), .lit (.int .u32 3988292384), .lit (.int .u32 4027552580), .lit (.int .u32 3604390888), .lit (.int .u32 3412177804), .lit (.int .u32 2607071920), .lit (.int .u32 2262029012), .lit (.int .u32 2685067896), .lit (.int .u32 3183342108)]

/-- 'tabellionlaw05.OctetPuts': WHATEVER THE INPUT: true; the input reads as it did. -/
def octetPutsSpec : ChangeSpec := { name := "octetPuts", fn := fun _ => fun
  | [d1, d2] => { results := [.lit (.bool true)], args := [d1, d2] }
  | _ => none }
def octetPutsRow : OpenClaim := { program := "ytlfgfjljddjncaadoor", sum := "761fb07d50ac3d7373a54d35fc82efa4768d27ab72137c4ab7f227c8424ea4ce", func := "tabellion/tabellionlaw05.OctetPuts", spec := "octetPuts", named := ["tabellion/octet.shifted"], apart := false, laid := [("tabellion/octet.shifted", laid_tabellion_octet_shifted)] }
def OctetPutsSaid : Prop := octetPutsRow.holds Tryd.pinned (OpenSpec.ofChange octetPutsSpec)

/-- ITS FALSE NEIGHBOUR: 'it returns false'. Refute it at one input. -/
def octetPutsWrong : ChangeSpec := { name := "octetPuts", fn := fun _ => fun
  | [d1, d2] => { results := [.lit (.bool false)], args := [d1, d2] }
  | _ => none }
def OctetPutsWrongFalsely : Prop := octetPutsRow.holds Tryd.pinned (OpenSpec.ofChange octetPutsWrong)

/-- 'tabellionlaw05.OctetGets': WHATEVER THE INPUT: true; the input reads as it did. -/
def octetGetsSpec : ChangeSpec := { name := "octetGets", fn := fun _ => fun
  | [d1, d2, d3] => { results := [.lit (.bool true)], args := [d1, d2, d3] }
  | _ => none }
def octetGetsRow : OpenClaim := { program := "ytlfgfjljddjncaadoor", sum := "761fb07d50ac3d7373a54d35fc82efa4768d27ab72137c4ab7f227c8424ea4ce", func := "tabellion/tabellionlaw05.OctetGets", spec := "octetGets", named := ["tabellion/octet.shifted"], apart := false, laid := [("tabellion/octet.shifted", laid_tabellion_octet_shifted)] }
def OctetGetsSaid : Prop := octetGetsRow.holds Tryd.pinned (OpenSpec.ofChange octetGetsSpec)

/-- ITS FALSE NEIGHBOUR: 'it returns false'. Refute it at one input. -/
def octetGetsWrong : ChangeSpec := { name := "octetGets", fn := fun _ => fun
  | [d1, d2, d3] => { results := [.lit (.bool false)], args := [d1, d2, d3] }
  | _ => none }
def OctetGetsWrongFalsely : Prop := octetGetsRow.holds Tryd.pinned (OpenSpec.ofChange octetGetsWrong)

/-- 'tabellionlaw05.OctetTexts': WHATEVER THE INPUT: true; the input reads as it did. -/
def octetTextsSpec : ChangeSpec := { name := "octetTexts", fn := fun _ => fun
  | [d1, d2, d3] => { results := [.lit (.bool true)], args := [d1, d2, d3] }
  | _ => none }
def octetTextsRow : OpenClaim := { program := "ytlfgfjljddjncaadoor", sum := "761fb07d50ac3d7373a54d35fc82efa4768d27ab72137c4ab7f227c8424ea4ce", func := "tabellion/tabellionlaw05.OctetTexts", spec := "octetTexts", named := ["tabellion/octet.shifted"], apart := false, laid := [("tabellion/octet.shifted", laid_tabellion_octet_shifted)] }
def OctetTextsSaid : Prop := octetTextsRow.holds Tryd.pinned (OpenSpec.ofChange octetTextsSpec)

/-- ITS FALSE NEIGHBOUR: 'it returns false'. Refute it at one input. -/
def octetTextsWrong : ChangeSpec := { name := "octetTexts", fn := fun _ => fun
  | [d1, d2, d3] => { results := [.lit (.bool false)], args := [d1, d2, d3] }
  | _ => none }
def OctetTextsWrongFalsely : Prop := octetTextsRow.holds Tryd.pinned (OpenSpec.ofChange octetTextsWrong)

/-- 'tabellionlaw05.OctetSums': WHATEVER THE INPUT: true; the input reads as it did. -/
def octetSumsSpec : ChangeSpec := { name := "octetSums", fn := fun _ => fun
  | [d] => { results := [.lit (.bool true)], args := [d] }
  | _ => none }
def octetSumsRow : OpenClaim := { program := "ytlfgfjljddjncaadoor", sum := "761fb07d50ac3d7373a54d35fc82efa4768d27ab72137c4ab7f227c8424ea4ce", func := "tabellion/tabellionlaw05.OctetSums", spec := "octetSums", named := ["tabellion/octet.shifted"], apart := false, laid := [("tabellion/octet.shifted", laid_tabellion_octet_shifted)] }
def OctetSumsSaid : Prop := octetSumsRow.holds Tryd.pinned (OpenSpec.ofChange octetSumsSpec)

/-- ITS FALSE NEIGHBOUR: 'it returns false'. Refute it at one input. -/
def octetSumsWrong : ChangeSpec := { name := "octetSums", fn := fun _ => fun
  | [d] => { results := [.lit (.bool false)], args := [d] }
  | _ => none }
def OctetSumsWrongFalsely : Prop := octetSumsRow.holds Tryd.pinned (OpenSpec.ofChange octetSumsWrong)

/-- 'tabellionlaw05.OctetFinds': WHATEVER THE INPUT: true; the input reads as it did. -/
def octetFindsSpec : ChangeSpec := { name := "octetFinds", fn := fun _ => fun
  | [d1, d2, d3] => { results := [.lit (.bool true)], args := [d1, d2, d3] }
  | _ => none }
def octetFindsRow : OpenClaim := { program := "ytlfgfjljddjncaadoor", sum := "761fb07d50ac3d7373a54d35fc82efa4768d27ab72137c4ab7f227c8424ea4ce", func := "tabellion/tabellionlaw05.OctetFinds", spec := "octetFinds", named := ["tabellion/octet.shifted"], apart := false, laid := [("tabellion/octet.shifted", laid_tabellion_octet_shifted)] }
def OctetFindsSaid : Prop := octetFindsRow.holds Tryd.pinned (OpenSpec.ofChange octetFindsSpec)

/-- ITS FALSE NEIGHBOUR: 'it returns false'. Refute it at one input. -/
def octetFindsWrong : ChangeSpec := { name := "octetFinds", fn := fun _ => fun
  | [d1, d2, d3] => { results := [.lit (.bool false)], args := [d1, d2, d3] }
  | _ => none }
def OctetFindsWrongFalsely : Prop := octetFindsRow.holds Tryd.pinned (OpenSpec.ofChange octetFindsWrong)

/- THE SECOND FORM. 'bulk': how many values and letters a reading holds, each counted each time it is reached (what is shared counts as often as it is met; a slice's spare places count too). A statement '..UptoSaid' is the law's where the arguments, and the package variables that the reading takes, are together of bulk at most 1048576: NARROWER than '..Said'. Prove '..Said' where nothing that the law and all that it calls make is longer than what came in: it says more and counts as full. Else prove '..UptoSaid'. A law counts once. -/
mutual
def uptoBulk {H : Type} : DataW H → Nat
  | .lit (.string bytes) => bytes.length + 1
  | .lit _ => 1
  | .nil => 1
  | .ptr d => uptoBulk d + 1
  | .slice elems spare => uptoBulkAll elems + uptoBulkAll spare + 1
  | .agg parts => uptoBulkAll parts + 1
  | .iface _ d => uptoBulk d + 1
  | .map entries => uptoBulkEntries entries + 1
  | .held _ => 1
def uptoBulkAll {H : Type} : List (DataW H) → Nat
  | [] => 0
  | d :: r => uptoBulk d + uptoBulkAll r
def uptoBulkEntries {H : Type} : List (Lit × DataW H) → Nat
  | [] => 0
  | x :: r => uptoBulkEntry x + uptoBulkEntries r
def uptoBulkEntry {H : Type} : Lit × DataW H → Nat
  | (.string bytes, d) => bytes.length + uptoBulk d + 1
  | (_, d) => uptoBulk d + 1
 end
def uptoSmall : (H : Type) → List (DataW H) → Bool := fun _ ds => decide (uptoBulkAll ds ≤ 1048576)
def OpenSpec.upto (s : _root_.Go.ChangeSpec) : _root_.Go.OpenSpec := { _root_.Go.OpenSpec.ofChange s with cond := some uptoSmall }

/-- 'tabellionlaw05.OctetPuts', WHERE WHAT IT READS IS OF BULK AT MOST 1048576: true; the input reads as it did. -/
def octetPutsUptoRow : OpenClaim := { program := "ytlfgfjljddjncaadoor", sum := "761fb07d50ac3d7373a54d35fc82efa4768d27ab72137c4ab7f227c8424ea4ce", func := "tabellion/tabellionlaw05.OctetPuts", spec := "octetPuts", named := ["tabellion/octet.shifted"], apart := false, laid := [("tabellion/octet.shifted", laid_tabellion_octet_shifted)], narrowed := true }
def OctetPutsUptoSaid : Prop := octetPutsUptoRow.holds Tryd.pinned (OpenSpec.upto octetPutsSpec)

/-- 'tabellionlaw05.OctetGets', WHERE WHAT IT READS IS OF BULK AT MOST 1048576: true; the input reads as it did. -/
def octetGetsUptoRow : OpenClaim := { program := "ytlfgfjljddjncaadoor", sum := "761fb07d50ac3d7373a54d35fc82efa4768d27ab72137c4ab7f227c8424ea4ce", func := "tabellion/tabellionlaw05.OctetGets", spec := "octetGets", named := ["tabellion/octet.shifted"], apart := false, laid := [("tabellion/octet.shifted", laid_tabellion_octet_shifted)], narrowed := true }
def OctetGetsUptoSaid : Prop := octetGetsUptoRow.holds Tryd.pinned (OpenSpec.upto octetGetsSpec)

/-- 'tabellionlaw05.OctetTexts', WHERE WHAT IT READS IS OF BULK AT MOST 1048576: true; the input reads as it did. -/
def octetTextsUptoRow : OpenClaim := { program := "ytlfgfjljddjncaadoor", sum := "761fb07d50ac3d7373a54d35fc82efa4768d27ab72137c4ab7f227c8424ea4ce", func := "tabellion/tabellionlaw05.OctetTexts", spec := "octetTexts", named := ["tabellion/octet.shifted"], apart := false, laid := [("tabellion/octet.shifted", laid_tabellion_octet_shifted)], narrowed := true }
def OctetTextsUptoSaid : Prop := octetTextsUptoRow.holds Tryd.pinned (OpenSpec.upto octetTextsSpec)

/-- 'tabellionlaw05.OctetSums', WHERE WHAT IT READS IS OF BULK AT MOST 1048576: true; the input reads as it did. -/
def octetSumsUptoRow : OpenClaim := { program := "ytlfgfjljddjncaadoor", sum := "761fb07d50ac3d7373a54d35fc82efa4768d27ab72137c4ab7f227c8424ea4ce", func := "tabellion/tabellionlaw05.OctetSums", spec := "octetSums", named := ["tabellion/octet.shifted"], apart := false, laid := [("tabellion/octet.shifted", laid_tabellion_octet_shifted)], narrowed := true }
def OctetSumsUptoSaid : Prop := octetSumsUptoRow.holds Tryd.pinned (OpenSpec.upto octetSumsSpec)

/-- 'tabellionlaw05.OctetFinds', WHERE WHAT IT READS IS OF BULK AT MOST 1048576: true; the input reads as it did. -/
def octetFindsUptoRow : OpenClaim := { program := "ytlfgfjljddjncaadoor", sum := "761fb07d50ac3d7373a54d35fc82efa4768d27ab72137c4ab7f227c8424ea4ce", func := "tabellion/tabellionlaw05.OctetFinds", spec := "octetFinds", named := ["tabellion/octet.shifted"], apart := false, laid := [("tabellion/octet.shifted", laid_tabellion_octet_shifted)], narrowed := true }
def OctetFindsUptoSaid : Prop := octetFindsUptoRow.holds Tryd.pinned (OpenSpec.upto octetFindsSpec)

end Rows
end Go.Proofs.YtlfgfjljddjncaaDoor
