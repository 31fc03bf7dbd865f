/-
  No cell of these rows narrows 'for every input' (looked for: loops, veiled, ifaces, maps, wideKeys, modest, calm, conditions, laid).
  DERIVED. THE GIVEN ROWS OF THIS SEAT. 4 by the template 'for every input the law returns true; each argument reads behind the call as it read before'; 0 by the template 'total and deterministic' (their statements: YtnkfimpfnofhnaaTotals.lean).
  GIVEN WITH THE SEED: the statements are not yours to turn. If you find one false, say at which input.
  Laid BY PROGRAM, IN A SANDBOX (cutbox-rows.mjs): the forced cells as the released guide's own fill.sh prints them over the translation 400bcbf243bbdaba… (all of the seat's roots in one cut). By AI agents, Wed Nov 11 2026. No macro, syntax, notation, axiom, sorry.
-/
import Derived.Test.YtnkfimpfnofhnaaChecked
import GoSem.Claim
import GoSem.ClaimJoined
import GoSem.ClaimMapViews
import Derived.JoinedTies
import Derived.KernelRfl
namespace Go.Proofs.Ytnkfimpfnofhnaa
/- THE CELL 'sum', in the pinned program and in every row, IS THE sha256 OF THE DUMP (.gsa) THAT YtnkfimpfnofhnaaProg.lean LOADS. Nothing in Lean hashes anything: it is a label: what it is worth is what the hold of that sum in a sandbox is worth. -/
noncomputable def Try.pinned : Pinned := { name := "ytnkfimpfnofhnaa", sum := "400bcbf243bbdaba3b12d61608bcb884a2b60dd21ad50c8d9e97b1f4a2ce9fa8", checked := Try.checked }
namespace Rows
def none {H : Type} : Left H := { results := [], args := [] }

/-- 'tabellionlaw25.CostSays': WHATEVER THE INPUT: true; the input reads as it did. -/
def costSaysSpec : ChangeSpec := { name := "costSays", fn := fun _ => fun
  | [d] => { results := [.lit (.bool true)], args := [d] }
  | _ => none }
def costSaysRow : OpenClaim := { program := "ytnkfimpfnofhnaa", sum := "400bcbf243bbdaba3b12d61608bcb884a2b60dd21ad50c8d9e97b1f4a2ce9fa8", func := "tabellion/tabellionlaw25.CostSays", spec := "costSays", apart := false }
def CostSaysSaid : Prop := costSaysRow.holds Try.pinned (OpenSpec.ofChange costSaysSpec)

/-- ITS FALSE NEIGHBOUR: 'it returns false'. Refute it at one input. -/
def costSaysWrong : ChangeSpec := { name := "costSays", fn := fun _ => fun
  | [d] => { results := [.lit (.bool false)], args := [d] }
  | _ => none }
def CostSaysWrongFalsely : Prop := costSaysRow.holds Try.pinned (OpenSpec.ofChange costSaysWrong)

/-- 'tabellionlaw25.CostRises': WHATEVER THE INPUT: true; the input reads as it did. -/
def costRisesSpec : ChangeSpec := { name := "costRises", fn := fun _ => fun
  | [d1, d2, d3] => { results := [.lit (.bool true)], args := [d1, d2, d3] }
  | _ => none }
def costRisesRow : OpenClaim := { program := "ytnkfimpfnofhnaa", sum := "400bcbf243bbdaba3b12d61608bcb884a2b60dd21ad50c8d9e97b1f4a2ce9fa8", func := "tabellion/tabellionlaw25.CostRises", spec := "costRises", apart := false }
def CostRisesSaid : Prop := costRisesRow.holds Try.pinned (OpenSpec.ofChange costRisesSpec)

/-- ITS FALSE NEIGHBOUR: 'it returns false'. Refute it at one input. -/
def costRisesWrong : ChangeSpec := { name := "costRises", fn := fun _ => fun
  | [d1, d2, d3] => { results := [.lit (.bool false)], args := [d1, d2, d3] }
  | _ => none }
def CostRisesWrongFalsely : Prop := costRisesRow.holds Try.pinned (OpenSpec.ofChange costRisesWrong)

/-- 'tabellionlaw25.CostSums': WHATEVER THE INPUT: true; the input reads as it did. -/
def costSumsSpec : ChangeSpec := { name := "costSums", fn := fun _ => fun
  | [d1, d2, d3] => { results := [.lit (.bool true)], args := [d1, d2, d3] }
  | _ => none }
def costSumsRow : OpenClaim := { program := "ytnkfimpfnofhnaa", sum := "400bcbf243bbdaba3b12d61608bcb884a2b60dd21ad50c8d9e97b1f4a2ce9fa8", func := "tabellion/tabellionlaw25.CostSums", spec := "costSums", apart := false }
def CostSumsSaid : Prop := costSumsRow.holds Try.pinned (OpenSpec.ofChange costSumsSpec)

/-- ITS FALSE NEIGHBOUR: 'it returns false'. Refute it at one input. -/
def costSumsWrong : ChangeSpec := { name := "costSums", fn := fun _ => fun
  | [d1, d2, d3] => { results := [.lit (.bool false)], args := [d1, d2, d3] }
  | _ => none }
def CostSumsWrongFalsely : Prop := costSumsRow.holds Try.pinned (OpenSpec.ofChange costSumsWrong)

/-- 'tabellionlaw25.CostPlans': WHATEVER THE INPUT: true; the input reads as it did. -/
def costPlansSpec : ChangeSpec := { name := "costPlans", fn := fun _ => fun
  | [d1, d2] => { results := [.lit (.bool true)], args := [d1, d2] }
  | _ => none }
def costPlansRow : OpenClaim := { program := "ytnkfimpfnofhnaa", sum := "400bcbf243bbdaba3b12d61608bcb884a2b60dd21ad50c8d9e97b1f4a2ce9fa8", func := "tabellion/tabellionlaw25.CostPlans", spec := "costPlans", apart := false }
def CostPlansSaid : Prop := costPlansRow.holds Try.pinned (OpenSpec.ofChange costPlansSpec)

/-- ITS FALSE NEIGHBOUR: 'it returns false'. Refute it at one input. -/
def costPlansWrong : ChangeSpec := { name := "costPlans", fn := fun _ => fun
  | [d1, d2] => { results := [.lit (.bool false)], args := [d1, d2] }
  | _ => none }
def CostPlansWrongFalsely : Prop := costPlansRow.holds Try.pinned (OpenSpec.ofChange costPlansWrong)

/- THE SECOND FORM. 'bulk': how many values and letters a reading holds, each counted each time it is reached (what is shared counts as often as it is met; a slice's spare places count too). A statement '..UptoSaid' is the law's where the arguments, and the package variables that the reading takes, are together of bulk at most 1048576: NARROWER than '..Said'. Prove '..Said' where nothing that the law and all that it calls make is longer than what came in: it says more and counts as full. Else prove '..UptoSaid'. A law counts once. -/
mutual
def uptoBulk {H : Type} : DataW H → Nat
  | .lit (.string bytes) => bytes.length + 1
  | .lit _ => 1
  | .nil => 1
  | .ptr d => uptoBulk d + 1
  | .slice elems spare => uptoBulkAll elems + uptoBulkAll spare + 1
  | .agg parts => uptoBulkAll parts + 1
  | .iface _ d => uptoBulk d + 1
  | .map entries => uptoBulkEntries entries + 1
  | .held _ => 1
def uptoBulkAll {H : Type} : List (DataW H) → Nat
  | [] => 0
  | d :: r => uptoBulk d + uptoBulkAll r
def uptoBulkEntries {H : Type} : List (Lit × DataW H) → Nat
  | [] => 0
  | x :: r => uptoBulkEntry x + uptoBulkEntries r
def uptoBulkEntry {H : Type} : Lit × DataW H → Nat
  | (.string bytes, d) => bytes.length + uptoBulk d + 1
  | (_, d) => uptoBulk d + 1
 end
def uptoSmall : (H : Type) → List (DataW H) → Bool := fun _ ds => decide (uptoBulkAll ds ≤ 1048576)
def OpenSpec.upto (s : _root_.Go.ChangeSpec) : _root_.Go.OpenSpec := { _root_.Go.OpenSpec.ofChange s with cond := some uptoSmall }

/-- 'tabellionlaw25.CostSays', WHERE WHAT IT READS IS OF BULK AT MOST 1048576: true; the input reads as it did. -/
def costSaysUptoRow : OpenClaim := { program := "ytnkfimpfnofhnaa", sum := "400bcbf243bbdaba3b12d61608bcb884a2b60dd21ad50c8d9e97b1f4a2ce9fa8", func := "tabellion/tabellionlaw25.CostSays", spec := "costSays", apart := false, narrowed := true }
def CostSaysUptoSaid : Prop := costSaysUptoRow.holds Try.pinned (OpenSpec.upto costSaysSpec)

/-- 'tabellionlaw25.CostRises', WHERE WHAT IT READS IS OF BULK AT MOST 1048576: true; the input reads as it did. -/
def costRisesUptoRow : OpenClaim := { program := "ytnkfimpfnofhnaa", sum := "400bcbf243bbdaba3b12d61608bcb884a2b60dd21ad50c8d9e97b1f4a2ce9fa8", func := "tabellion/tabellionlaw25.CostRises", spec := "costRises", apart := false, narrowed := true }
def CostRisesUptoSaid : Prop := costRisesUptoRow.holds Try.pinned (OpenSpec.upto costRisesSpec)

/-- 'tabellionlaw25.CostSums', WHERE WHAT IT READS IS OF BULK AT MOST 1048576: true; the input reads as it did. -/
def costSumsUptoRow : OpenClaim := { program := "ytnkfimpfnofhnaa", sum := "400bcbf243bbdaba3b12d61608bcb884a2b60dd21ad50c8d9e97b1f4a2ce9fa8", func := "tabellion/tabellionlaw25.CostSums", spec := "costSums", apart := false, narrowed := true }
def CostSumsUptoSaid : Prop := costSumsUptoRow.holds Try.pinned (OpenSpec.upto costSumsSpec)

/-- 'tabellionlaw25.CostPlans', WHERE WHAT IT READS IS OF BULK AT MOST 1048576: true; the input reads as it did. -/
def costPlansUptoRow : OpenClaim := { program := "ytnkfimpfnofhnaa", sum := "400bcbf243bbdaba3b12d61608bcb884a2b60dd21ad50c8d9e97b1f4a2ce9fa8", func := "tabellion/tabellionlaw25.CostPlans", spec := "costPlans", apart := false, narrowed := true }
def CostPlansUptoSaid : Prop := costPlansUptoRow.holds Try.pinned (OpenSpec.upto costPlansSpec)

end Rows
end Go.Proofs.Ytnkfimpfnofhnaa
