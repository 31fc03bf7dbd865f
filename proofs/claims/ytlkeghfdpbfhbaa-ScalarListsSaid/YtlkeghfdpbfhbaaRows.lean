/-
  NARROWER THAN 'FOR EVERY INPUT', by the rows' own cells (each row's printed sentence says how): ScalarEvals: loops.
  DERIVED. THE GIVEN ROWS OF THIS SEAT. 5 by the template 'for every input the law returns true; each argument reads behind the call as it read before'; 0 by the template 'total and deterministic' (their statements: YtlkeghfdpbfhbaaTotals.lean).
  GIVEN WITH THE SEED: the statements are not yours to turn. If you find one false, say at which input.
  Laid BY PROGRAM, IN A SANDBOX (cutbox-rows.mjs): the forced cells as the released guide's own fill.sh prints them over the translation 8491d48fd9bf8a46… (all of the seat's roots in one cut). By AI agents, Wed Nov 11 2026. No macro, syntax, notation, axiom, sorry.
-/
import Derived.Test.YtlkeghfdpbfhbaaChecked
import GoSem.Claim
import GoSem.ClaimJoined
import GoSem.ClaimMapViews
import Derived.JoinedTies
import Derived.KernelRfl
namespace Go.Proofs.Ytlkeghfdpbfhbaa
/- THE CELL 'sum', in the pinned program and in every row, IS THE sha256 OF THE DUMP (.gsa) THAT YtlkeghfdpbfhbaaProg.lean LOADS. Nothing in Lean hashes anything: it is a label: what it is worth is what the hold of that sum in a sandbox is worth. -/
noncomputable def Try.pinned : Pinned := { name := "ytlkeghfdpbfhbaa", sum := "8491d48fd9bf8a46b22e57868649066d1136e26708ad742b07b405915c9aecc6", checked := Try.checked }
namespace Rows
def none {H : Type} : Left H := { results := [], args := [] }

/-- 'tabellionlaw17.ScalarApplies': WHATEVER THE INPUT: true; the input reads as it did. -/
def scalarAppliesSpec : ChangeSpec := { name := "scalarApplies", fn := fun _ => fun
  | [d1, d2, d3] => { results := [.lit (.bool true)], args := [d1, d2, d3] }
  | _ => none }
def scalarAppliesRow : OpenClaim := { program := "ytlkeghfdpbfhbaa", sum := "8491d48fd9bf8a46b22e57868649066d1136e26708ad742b07b405915c9aecc6", func := "tabellion/tabellionlaw17.ScalarApplies", spec := "scalarApplies", inPlace := ["internal/bytealg.abigen_runtime_cmpstring"], recurses := true, apart := false }
def ScalarAppliesSaid : Prop := scalarAppliesRow.holds Try.pinned (OpenSpec.ofChange scalarAppliesSpec)

/-- ITS FALSE NEIGHBOUR: 'it returns false'. Refute it at one input. -/
def scalarAppliesWrong : ChangeSpec := { name := "scalarApplies", fn := fun _ => fun
  | [d1, d2, d3] => { results := [.lit (.bool false)], args := [d1, d2, d3] }
  | _ => none }
def ScalarAppliesWrongFalsely : Prop := scalarAppliesRow.holds Try.pinned (OpenSpec.ofChange scalarAppliesWrong)

/-- 'tabellionlaw17.ScalarEvals': WHATEVER THE INPUT: true; the input reads as it did. -/
def scalarEvalsSpec : ChangeSpec := { name := "scalarEvals", fn := fun _ => fun
  | [d1, d2] => { results := [.lit (.bool true)], args := [d1, d2] }
  | _ => none }
def scalarEvalsRow : OpenClaim := { program := "ytlkeghfdpbfhbaa", sum := "8491d48fd9bf8a46b22e57868649066d1136e26708ad742b07b405915c9aecc6", func := "tabellion/tabellionlaw17.ScalarEvals", spec := "scalarEvals", inPlace := ["internal/bytealg.abigen_runtime_cmpstring"], recurses := true, loops := true, apart := false }
def ScalarEvalsSaid : Prop := scalarEvalsRow.holds Try.pinned (OpenSpec.ofChange scalarEvalsSpec)

/-- ITS FALSE NEIGHBOUR: 'it returns false'. Refute it at one input. -/
def scalarEvalsWrong : ChangeSpec := { name := "scalarEvals", fn := fun _ => fun
  | [d1, d2] => { results := [.lit (.bool false)], args := [d1, d2] }
  | _ => none }
def ScalarEvalsWrongFalsely : Prop := scalarEvalsRow.holds Try.pinned (OpenSpec.ofChange scalarEvalsWrong)

/-- 'tabellionlaw17.ScalarRight': WHATEVER THE INPUT: true; the input reads as it did. -/
def scalarRightSpec : ChangeSpec := { name := "scalarRight", fn := fun _ => fun
  | [d1, d2, d3, d4] => { results := [.lit (.bool true)], args := [d1, d2, d3, d4] }
  | _ => none }
def scalarRightRow : OpenClaim := { program := "ytlkeghfdpbfhbaa", sum := "8491d48fd9bf8a46b22e57868649066d1136e26708ad742b07b405915c9aecc6", func := "tabellion/tabellionlaw17.ScalarRight", spec := "scalarRight", inPlace := ["internal/bytealg.abigen_runtime_cmpstring"], recurses := true, apart := false }
def ScalarRightSaid : Prop := scalarRightRow.holds Try.pinned (OpenSpec.ofChange scalarRightSpec)

/-- ITS FALSE NEIGHBOUR: 'it returns false'. Refute it at one input. -/
def scalarRightWrong : ChangeSpec := { name := "scalarRight", fn := fun _ => fun
  | [d1, d2, d3, d4] => { results := [.lit (.bool false)], args := [d1, d2, d3, d4] }
  | _ => none }
def ScalarRightWrongFalsely : Prop := scalarRightRow.holds Try.pinned (OpenSpec.ofChange scalarRightWrong)

/-- 'tabellionlaw17.ScalarTurns': WHATEVER THE INPUT: true; the input reads as it did. -/
def scalarTurnsSpec : ChangeSpec := { name := "scalarTurns", fn := fun _ => fun
  | [d1, d2, d3, d4] => { results := [.lit (.bool true)], args := [d1, d2, d3, d4] }
  | _ => none }
def scalarTurnsRow : OpenClaim := { program := "ytlkeghfdpbfhbaa", sum := "8491d48fd9bf8a46b22e57868649066d1136e26708ad742b07b405915c9aecc6", func := "tabellion/tabellionlaw17.ScalarTurns", spec := "scalarTurns", inPlace := ["internal/bytealg.abigen_runtime_cmpstring"], recurses := true, apart := false }
def ScalarTurnsSaid : Prop := scalarTurnsRow.holds Try.pinned (OpenSpec.ofChange scalarTurnsSpec)

/-- ITS FALSE NEIGHBOUR: 'it returns false'. Refute it at one input. -/
def scalarTurnsWrong : ChangeSpec := { name := "scalarTurns", fn := fun _ => fun
  | [d1, d2, d3, d4] => { results := [.lit (.bool false)], args := [d1, d2, d3, d4] }
  | _ => none }
def ScalarTurnsWrongFalsely : Prop := scalarTurnsRow.holds Try.pinned (OpenSpec.ofChange scalarTurnsWrong)

/-- 'tabellionlaw17.ScalarLists': WHATEVER THE INPUT: true; the input reads as it did. -/
def scalarListsSpec : ChangeSpec := { name := "scalarLists", fn := fun _ => fun
  | [d1, d2, d3] => { results := [.lit (.bool true)], args := [d1, d2, d3] }
  | _ => none }
def scalarListsRow : OpenClaim := { program := "ytlkeghfdpbfhbaa", sum := "8491d48fd9bf8a46b22e57868649066d1136e26708ad742b07b405915c9aecc6", func := "tabellion/tabellionlaw17.ScalarLists", spec := "scalarLists", inPlace := ["internal/bytealg.abigen_runtime_cmpstring"], recurses := true, apart := false }
def ScalarListsSaid : Prop := scalarListsRow.holds Try.pinned (OpenSpec.ofChange scalarListsSpec)

/-- ITS FALSE NEIGHBOUR: 'it returns false'. Refute it at one input. -/
def scalarListsWrong : ChangeSpec := { name := "scalarLists", fn := fun _ => fun
  | [d1, d2, d3] => { results := [.lit (.bool false)], args := [d1, d2, d3] }
  | _ => none }
def ScalarListsWrongFalsely : Prop := scalarListsRow.holds Try.pinned (OpenSpec.ofChange scalarListsWrong)

/- THE SECOND FORM. 'bulk': how many values and letters a reading holds, each counted each time it is reached (what is shared counts as often as it is met; a slice's spare places count too). A statement '..UptoSaid' is the law's where the arguments, and the package variables that the reading takes, are together of bulk at most 1048576: NARROWER than '..Said'. Prove '..Said' where nothing that the law and all that it calls make is longer than what came in: it says more and counts as full. Else prove '..UptoSaid'. A law counts once. -/
mutual
def uptoBulk {H : Type} : DataW H → Nat
  | .lit (.string bytes) => bytes.length + 1
  | .lit _ => 1
  | .nil => 1
  | .ptr d => uptoBulk d + 1
  | .slice elems spare => uptoBulkAll elems + uptoBulkAll spare + 1
  | .agg parts => uptoBulkAll parts + 1
  | .iface _ d => uptoBulk d + 1
  | .map entries => uptoBulkEntries entries + 1
  | .held _ => 1
def uptoBulkAll {H : Type} : List (DataW H) → Nat
  | [] => 0
  | d :: r => uptoBulk d + uptoBulkAll r
def uptoBulkEntries {H : Type} : List (Lit × DataW H) → Nat
  | [] => 0
  | x :: r => uptoBulkEntry x + uptoBulkEntries r
def uptoBulkEntry {H : Type} : Lit × DataW H → Nat
  | (.string bytes, d) => bytes.length + uptoBulk d + 1
  | (_, d) => uptoBulk d + 1
 end
def uptoSmall : (H : Type) → List (DataW H) → Bool := fun _ ds => decide (uptoBulkAll ds ≤ 1048576)
def OpenSpec.upto (s : _root_.Go.ChangeSpec) : _root_.Go.OpenSpec := { _root_.Go.OpenSpec.ofChange s with cond := some uptoSmall }

/-- 'tabellionlaw17.ScalarApplies', WHERE WHAT IT READS IS OF BULK AT MOST 1048576: true; the input reads as it did. -/
def scalarAppliesUptoRow : OpenClaim := { program := "ytlkeghfdpbfhbaa", sum := "8491d48fd9bf8a46b22e57868649066d1136e26708ad742b07b405915c9aecc6", func := "tabellion/tabellionlaw17.ScalarApplies", spec := "scalarApplies", inPlace := ["internal/bytealg.abigen_runtime_cmpstring"], recurses := true, apart := false, narrowed := true }
def ScalarAppliesUptoSaid : Prop := scalarAppliesUptoRow.holds Try.pinned (OpenSpec.upto scalarAppliesSpec)

/-- 'tabellionlaw17.ScalarEvals', WHERE WHAT IT READS IS OF BULK AT MOST 1048576: true; the input reads as it did. -/
def scalarEvalsUptoRow : OpenClaim := { program := "ytlkeghfdpbfhbaa", sum := "8491d48fd9bf8a46b22e57868649066d1136e26708ad742b07b405915c9aecc6", func := "tabellion/tabellionlaw17.ScalarEvals", spec := "scalarEvals", inPlace := ["internal/bytealg.abigen_runtime_cmpstring"], recurses := true, loops := true, apart := false, narrowed := true }
def ScalarEvalsUptoSaid : Prop := scalarEvalsUptoRow.holds Try.pinned (OpenSpec.upto scalarEvalsSpec)

/-- 'tabellionlaw17.ScalarRight', WHERE WHAT IT READS IS OF BULK AT MOST 1048576: true; the input reads as it did. -/
def scalarRightUptoRow : OpenClaim := { program := "ytlkeghfdpbfhbaa", sum := "8491d48fd9bf8a46b22e57868649066d1136e26708ad742b07b405915c9aecc6", func := "tabellion/tabellionlaw17.ScalarRight", spec := "scalarRight", inPlace := ["internal/bytealg.abigen_runtime_cmpstring"], recurses := true, apart := false, narrowed := true }
def ScalarRightUptoSaid : Prop := scalarRightUptoRow.holds Try.pinned (OpenSpec.upto scalarRightSpec)

/-- 'tabellionlaw17.ScalarTurns', WHERE WHAT IT READS IS OF BULK AT MOST 1048576: true; the input reads as it did. -/
def scalarTurnsUptoRow : OpenClaim := { program := "ytlkeghfdpbfhbaa", sum := "8491d48fd9bf8a46b22e57868649066d1136e26708ad742b07b405915c9aecc6", func := "tabellion/tabellionlaw17.ScalarTurns", spec := "scalarTurns", inPlace := ["internal/bytealg.abigen_runtime_cmpstring"], recurses := true, apart := false, narrowed := true }
def ScalarTurnsUptoSaid : Prop := scalarTurnsUptoRow.holds Try.pinned (OpenSpec.upto scalarTurnsSpec)

/-- 'tabellionlaw17.ScalarLists', WHERE WHAT IT READS IS OF BULK AT MOST 1048576: true; the input reads as it did. -/
def scalarListsUptoRow : OpenClaim := { program := "ytlkeghfdpbfhbaa", sum := "8491d48fd9bf8a46b22e57868649066d1136e26708ad742b07b405915c9aecc6", func := "tabellion/tabellionlaw17.ScalarLists", spec := "scalarLists", inPlace := ["internal/bytealg.abigen_runtime_cmpstring"], recurses := true, apart := false, narrowed := true }
def ScalarListsUptoSaid : Prop := scalarListsUptoRow.holds Try.pinned (OpenSpec.upto scalarListsSpec)

end Rows
end Go.Proofs.Ytlkeghfdpbfhbaa
