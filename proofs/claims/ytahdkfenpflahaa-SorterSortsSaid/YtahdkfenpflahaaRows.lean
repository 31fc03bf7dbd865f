/-
  No cell of these rows narrows 'for every input' (looked for: loops, veiled, ifaces, maps, wideKeys, modest, calm, conditions, laid).
  DERIVED. THE GIVEN ROWS OF THIS SEAT. 5 by the template 'for every input the law returns true; each argument reads behind the call as it read before'; 0 by the template 'total and deterministic' (their statements: YtahdkfenpflahaaTotals.lean).
  GIVEN WITH THE SEED: the statements are not yours to turn. If you find one false, say at which input.
  Laid BY PROGRAM, IN A SANDBOX (cutbox-rows.mjs): the forced cells as the released guide's own fill.sh prints them over the translation 351486af9232928a… (all of the seat's roots in one cut). By AI agents, Wed Nov 11 2026. No macro, syntax, notation, axiom, sorry.
-/
import Derived.Test.YtahdkfenpflahaaChecked
import GoSem.Claim
import GoSem.ClaimJoined
import GoSem.ClaimMapViews
import Derived.JoinedTies
import Derived.KernelRfl
namespace Go.Proofs.Ytahdkfenpflahaa
/- THE CELL 'sum', in the pinned program and in every row, IS THE sha256 OF THE DUMP (.gsa) THAT YtahdkfenpflahaaProg.lean LOADS. Nothing in Lean hashes anything: it is a label: what it is worth is what the hold of that sum in a sandbox is worth. -/
noncomputable def Try.pinned : Pinned := { name := "ytahdkfenpflahaa", sum := "351486af9232928ab019483727fe4ef3975afb7b406b18961a4fc182b5e79d3d", checked := Try.checked }
namespace Rows
def none {H : Type} : Left H := { results := [], args := [] }

/-- 'tabellionlaw31.SorterSays': WHATEVER THE INPUT: true; the input reads as it did. -/
def sorterSaysSpec : ChangeSpec := { name := "sorterSays", fn := fun _ => fun
  | [d1, d2, d3] => { results := [.lit (.bool true)], args := [d1, d2, d3] }
  | _ => none }
def sorterSaysRow : OpenClaim := { program := "ytahdkfenpflahaa", sum := "351486af9232928ab019483727fe4ef3975afb7b406b18961a4fc182b5e79d3d", func := "tabellion/tabellionlaw31.SorterSays", spec := "sorterSays", inPlace := ["internal/bytealg.abigen_runtime_cmpstring"], unfollowed := true, recurses := true, apart := false }
def SorterSaysSaid : Prop := sorterSaysRow.holds Try.pinned (OpenSpec.ofChange sorterSaysSpec)

/-- ITS FALSE NEIGHBOUR: 'it returns false'. Refute it at one input. -/
def sorterSaysWrong : ChangeSpec := { name := "sorterSays", fn := fun _ => fun
  | [d1, d2, d3] => { results := [.lit (.bool false)], args := [d1, d2, d3] }
  | _ => none }
def SorterSaysWrongFalsely : Prop := sorterSaysRow.holds Try.pinned (OpenSpec.ofChange sorterSaysWrong)

/-- 'tabellionlaw31.SorterOrder': WHATEVER THE INPUT: true; the input reads as it did. -/
def sorterOrderSpec : ChangeSpec := { name := "sorterOrder", fn := fun _ => fun
  | [d1, d2] => { results := [.lit (.bool true)], args := [d1, d2] }
  | _ => none }
def sorterOrderRow : OpenClaim := { program := "ytahdkfenpflahaa", sum := "351486af9232928ab019483727fe4ef3975afb7b406b18961a4fc182b5e79d3d", func := "tabellion/tabellionlaw31.SorterOrder", spec := "sorterOrder", inPlace := ["internal/bytealg.abigen_runtime_cmpstring"], unfollowed := true, recurses := true, apart := false }
def SorterOrderSaid : Prop := sorterOrderRow.holds Try.pinned (OpenSpec.ofChange sorterOrderSpec)

/-- ITS FALSE NEIGHBOUR: 'it returns false'. Refute it at one input. -/
def sorterOrderWrong : ChangeSpec := { name := "sorterOrder", fn := fun _ => fun
  | [d1, d2] => { results := [.lit (.bool false)], args := [d1, d2] }
  | _ => none }
def SorterOrderWrongFalsely : Prop := sorterOrderRow.holds Try.pinned (OpenSpec.ofChange sorterOrderWrong)

/-- 'tabellionlaw31.SorterSorts': WHATEVER THE INPUT: true; the input reads as it did. -/
def sorterSortsSpec : ChangeSpec := { name := "sorterSorts", fn := fun _ => fun
  | [d1, d2, d3] => { results := [.lit (.bool true)], args := [d1, d2, d3] }
  | _ => none }
def sorterSortsRow : OpenClaim := { program := "ytahdkfenpflahaa", sum := "351486af9232928ab019483727fe4ef3975afb7b406b18961a4fc182b5e79d3d", func := "tabellion/tabellionlaw31.SorterSorts", spec := "sorterSorts", inPlace := ["internal/bytealg.abigen_runtime_cmpstring"], unfollowed := true, recurses := true, apart := false }
def SorterSortsSaid : Prop := sorterSortsRow.holds Try.pinned (OpenSpec.ofChange sorterSortsSpec)

/-- ITS FALSE NEIGHBOUR: 'it returns false'. Refute it at one input. -/
def sorterSortsWrong : ChangeSpec := { name := "sorterSorts", fn := fun _ => fun
  | [d1, d2, d3] => { results := [.lit (.bool false)], args := [d1, d2, d3] }
  | _ => none }
def SorterSortsWrongFalsely : Prop := sorterSortsRow.holds Try.pinned (OpenSpec.ofChange sorterSortsWrong)

/-- 'tabellionlaw31.SorterRuns': WHATEVER THE INPUT: true; the input reads as it did. -/
def sorterRunsSpec : ChangeSpec := { name := "sorterRuns", fn := fun _ => fun
  | [d1, d2, d3] => { results := [.lit (.bool true)], args := [d1, d2, d3] }
  | _ => none }
def sorterRunsRow : OpenClaim := { program := "ytahdkfenpflahaa", sum := "351486af9232928ab019483727fe4ef3975afb7b406b18961a4fc182b5e79d3d", func := "tabellion/tabellionlaw31.SorterRuns", spec := "sorterRuns", inPlace := ["internal/bytealg.abigen_runtime_cmpstring"], unfollowed := true, recurses := true, apart := false }
def SorterRunsSaid : Prop := sorterRunsRow.holds Try.pinned (OpenSpec.ofChange sorterRunsSpec)

/-- ITS FALSE NEIGHBOUR: 'it returns false'. Refute it at one input. -/
def sorterRunsWrong : ChangeSpec := { name := "sorterRuns", fn := fun _ => fun
  | [d1, d2, d3] => { results := [.lit (.bool false)], args := [d1, d2, d3] }
  | _ => none }
def SorterRunsWrongFalsely : Prop := sorterRunsRow.holds Try.pinned (OpenSpec.ofChange sorterRunsWrong)

/-- 'tabellionlaw31.SorterMerges': WHATEVER THE INPUT: true; the input reads as it did. -/
def sorterMergesSpec : ChangeSpec := { name := "sorterMerges", fn := fun _ => fun
  | [d1, d2] => { results := [.lit (.bool true)], args := [d1, d2] }
  | _ => none }
def sorterMergesRow : OpenClaim := { program := "ytahdkfenpflahaa", sum := "351486af9232928ab019483727fe4ef3975afb7b406b18961a4fc182b5e79d3d", func := "tabellion/tabellionlaw31.SorterMerges", spec := "sorterMerges", inPlace := ["internal/bytealg.abigen_runtime_cmpstring"], unfollowed := true, recurses := true, apart := false }
def SorterMergesSaid : Prop := sorterMergesRow.holds Try.pinned (OpenSpec.ofChange sorterMergesSpec)

/-- ITS FALSE NEIGHBOUR: 'it returns false'. Refute it at one input. -/
def sorterMergesWrong : ChangeSpec := { name := "sorterMerges", fn := fun _ => fun
  | [d1, d2] => { results := [.lit (.bool false)], args := [d1, d2] }
  | _ => none }
def SorterMergesWrongFalsely : Prop := sorterMergesRow.holds Try.pinned (OpenSpec.ofChange sorterMergesWrong)

/- THE SECOND FORM. 'bulk': how many values and letters a reading holds, each counted each time it is reached (what is shared counts as often as it is met; a slice's spare places count too). A statement '..UptoSaid' is the law's where the arguments, and the package variables that the reading takes, are together of bulk at most 1048576: NARROWER than '..Said'. Prove '..Said' where nothing that the law and all that it calls make is longer than what came in: it says more and counts as full. Else prove '..UptoSaid'. A law counts once. -/
mutual
def uptoBulk {H : Type} : DataW H → Nat
  | .lit (.string bytes) => bytes.length + 1
  | .lit _ => 1
  | .nil => 1
  | .ptr d => uptoBulk d + 1
  | .slice elems spare => uptoBulkAll elems + uptoBulkAll spare + 1
  | .agg parts => uptoBulkAll parts + 1
  | .iface _ d => uptoBulk d + 1
  | .map entries => uptoBulkEntries entries + 1
  | .held _ => 1
def uptoBulkAll {H : Type} : List (DataW H) → Nat
  | [] => 0
  | d :: r => uptoBulk d + uptoBulkAll r
def uptoBulkEntries {H : Type} : List (Lit × DataW H) → Nat
  | [] => 0
  | x :: r => uptoBulkEntry x + uptoBulkEntries r
def uptoBulkEntry {H : Type} : Lit × DataW H → Nat
  | (.string bytes, d) => bytes.length + uptoBulk d + 1
  | (_, d) => uptoBulk d + 1
 end
def uptoSmall : (H : Type) → List (DataW H) → Bool := fun _ ds => decide (uptoBulkAll ds ≤ 1048576)
def OpenSpec.upto (s : _root_.Go.ChangeSpec) : _root_.Go.OpenSpec := { _root_.Go.OpenSpec.ofChange s with cond := some uptoSmall }

/-- 'tabellionlaw31.SorterSays', WHERE WHAT IT READS IS OF BULK AT MOST 1048576: true; the input reads as it did. -/
def sorterSaysUptoRow : OpenClaim := { program := "ytahdkfenpflahaa", sum := "351486af9232928ab019483727fe4ef3975afb7b406b18961a4fc182b5e79d3d", func := "tabellion/tabellionlaw31.SorterSays", spec := "sorterSays", inPlace := ["internal/bytealg.abigen_runtime_cmpstring"], unfollowed := true, recurses := true, apart := false, narrowed := true }
def SorterSaysUptoSaid : Prop := sorterSaysUptoRow.holds Try.pinned (OpenSpec.upto sorterSaysSpec)

/-- 'tabellionlaw31.SorterOrder', WHERE WHAT IT READS IS OF BULK AT MOST 1048576: true; the input reads as it did. -/
def sorterOrderUptoRow : OpenClaim := { program := "ytahdkfenpflahaa", sum := "351486af9232928ab019483727fe4ef3975afb7b406b18961a4fc182b5e79d3d", func := "tabellion/tabellionlaw31.SorterOrder", spec := "sorterOrder", inPlace := ["internal/bytealg.abigen_runtime_cmpstring"], unfollowed := true, recurses := true, apart := false, narrowed := true }
def SorterOrderUptoSaid : Prop := sorterOrderUptoRow.holds Try.pinned (OpenSpec.upto sorterOrderSpec)

/-- 'tabellionlaw31.SorterSorts', WHERE WHAT IT READS IS OF BULK AT MOST 1048576: true; the input reads as it did. -/
def sorterSortsUptoRow : OpenClaim := { program := "ytahdkfenpflahaa", sum := "351486af9232928ab019483727fe4ef3975afb7b406b18961a4fc182b5e79d3d", func := "tabellion/tabellionlaw31.SorterSorts", spec := "sorterSorts", inPlace := ["internal/bytealg.abigen_runtime_cmpstring"], unfollowed := true, recurses := true, apart := false, narrowed := true }
def SorterSortsUptoSaid : Prop := sorterSortsUptoRow.holds Try.pinned (OpenSpec.upto sorterSortsSpec)

/-- 'tabellionlaw31.SorterRuns', WHERE WHAT IT READS IS OF BULK AT MOST 1048576: true; the input reads as it did. -/
def sorterRunsUptoRow : OpenClaim := { program := "ytahdkfenpflahaa", sum := "351486af9232928ab019483727fe4ef3975afb7b406b18961a4fc182b5e79d3d", func := "tabellion/tabellionlaw31.SorterRuns", spec := "sorterRuns", inPlace := ["internal/bytealg.abigen_runtime_cmpstring"], unfollowed := true, recurses := true, apart := false, narrowed := true }
def SorterRunsUptoSaid : Prop := sorterRunsUptoRow.holds Try.pinned (OpenSpec.upto sorterRunsSpec)

/-- 'tabellionlaw31.SorterMerges', WHERE WHAT IT READS IS OF BULK AT MOST 1048576: true; the input reads as it did. -/
def sorterMergesUptoRow : OpenClaim := { program := "ytahdkfenpflahaa", sum := "351486af9232928ab019483727fe4ef3975afb7b406b18961a4fc182b5e79d3d", func := "tabellion/tabellionlaw31.SorterMerges", spec := "sorterMerges", inPlace := ["internal/bytealg.abigen_runtime_cmpstring"], unfollowed := true, recurses := true, apart := false, narrowed := true }
def SorterMergesUptoSaid : Prop := sorterMergesUptoRow.holds Try.pinned (OpenSpec.upto sorterMergesSpec)

end Rows
end Go.Proofs.Ytahdkfenpflahaa
