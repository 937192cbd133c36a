/-
  No cell of these rows narrows 'for every input' (looked for: loops, veiled, ifaces, maps, wideKeys, modest, calm, conditions, laid).
  DERIVED. THE GIVEN ROWS OF THIS SEAT. 5 by the template 'for every input the law returns true; each argument reads behind the call as it read before'; 0 by the template 'total and deterministic' (their statements: YtcaegaeihnophaaTotals.lean).
  GIVEN WITH THE SEED: the statements are not yours to turn. If you find one false, say at which input.
  Laid BY PROGRAM, IN A SANDBOX (cutbox-rows.mjs): the forced cells as the released guide's own fill.sh prints them over the translation d864d4ac7366bd66… (all of the seat's roots in one cut). By AI agents, Wed Nov 11 2026. No macro, syntax, notation, axiom, sorry.
-/
import Derived.Test.YtcaegaeihnophaaChecked
import GoSem.Claim
import GoSem.ClaimJoined
import GoSem.ClaimMapViews
import Derived.JoinedTies
import Derived.KernelRfl
namespace Go.Proofs.Ytcaegaeihnophaa
/- THE CELL 'sum', in the pinned program and in every row, IS THE sha256 OF THE DUMP (.gsa) THAT YtcaegaeihnophaaProg.lean LOADS. Nothing in Lean hashes anything: it is a label: what it is worth is what the hold of that sum in a sandbox is worth. -/
noncomputable def Try.pinned : Pinned := { name := "ytcaegaeihnophaa", sum := "d864d4ac7366bd660550888703581370ff3c2bd4d4518e971bc61f42c8f6a5ae", checked := Try.checked }
namespace Rows
def none {H : Type} : Left H := { results := [], args := [] }

/-- 'laws.FnLags': WHATEVER THE INPUT: true; the input reads as it did. -/
def fnLagsSpec : ChangeSpec := { name := "fnLags", fn := fun _ => fun
  | [d] => { results := [.lit (.bool true)], args := [d] }
  | _ => none }
def fnLagsRow : OpenClaim := { program := "ytcaegaeihnophaa", sum := "d864d4ac7366bd660550888703581370ff3c2bd4d4518e971bc61f42c8f6a5ae", func := "loop.example/g00763/laws.FnLags", spec := "fnLags", apart := false }
def FnLagsSaid : Prop := fnLagsRow.holds Try.pinned (OpenSpec.ofChange fnLagsSpec)

/-- ITS FALSE NEIGHBOUR: 'it returns false'. Refute it at one input. -/
def fnLagsWrong : ChangeSpec := { name := "fnLags", fn := fun _ => fun
  | [d] => { results := [.lit (.bool false)], args := [d] }
  | _ => none }
def FnLagsWrongFalsely : Prop := fnLagsRow.holds Try.pinned (OpenSpec.ofChange fnLagsWrong)

/-- 'laws.FnExactCountsOk': WHATEVER THE INPUT: true; the input reads as it did. -/
def fnExactCountsOkSpec : ChangeSpec := { name := "fnExactCountsOk", fn := fun _ => fun
  | [d1, d2] => { results := [.lit (.bool true)], args := [d1, d2] }
  | _ => none }
def fnExactCountsOkRow : OpenClaim := { program := "ytcaegaeihnophaa", sum := "d864d4ac7366bd660550888703581370ff3c2bd4d4518e971bc61f42c8f6a5ae", func := "loop.example/g00763/laws.FnExactCountsOk", spec := "fnExactCountsOk", apart := false }
def FnExactCountsOkSaid : Prop := fnExactCountsOkRow.holds Try.pinned (OpenSpec.ofChange fnExactCountsOkSpec)

/-- ITS FALSE NEIGHBOUR: 'it returns false'. Refute it at one input. -/
def fnExactCountsOkWrong : ChangeSpec := { name := "fnExactCountsOk", fn := fun _ => fun
  | [d1, d2] => { results := [.lit (.bool false)], args := [d1, d2] }
  | _ => none }
def FnExactCountsOkWrongFalsely : Prop := fnExactCountsOkRow.holds Try.pinned (OpenSpec.ofChange fnExactCountsOkWrong)

/-- 'laws.FnExactTurnsOf': WHATEVER THE INPUT: true; the input reads as it did. -/
def fnExactTurnsOfSpec : ChangeSpec := { name := "fnExactTurnsOf", fn := fun _ => fun
  | [d1, d2] => { results := [.lit (.bool true)], args := [d1, d2] }
  | _ => none }
def fnExactTurnsOfRow : OpenClaim := { program := "ytcaegaeihnophaa", sum := "d864d4ac7366bd660550888703581370ff3c2bd4d4518e971bc61f42c8f6a5ae", func := "loop.example/g00763/laws.FnExactTurnsOf", spec := "fnExactTurnsOf", apart := false }
def FnExactTurnsOfSaid : Prop := fnExactTurnsOfRow.holds Try.pinned (OpenSpec.ofChange fnExactTurnsOfSpec)

/-- ITS FALSE NEIGHBOUR: 'it returns false'. Refute it at one input. -/
def fnExactTurnsOfWrong : ChangeSpec := { name := "fnExactTurnsOf", fn := fun _ => fun
  | [d1, d2] => { results := [.lit (.bool false)], args := [d1, d2] }
  | _ => none }
def FnExactTurnsOfWrongFalsely : Prop := fnExactTurnsOfRow.holds Try.pinned (OpenSpec.ofChange fnExactTurnsOfWrong)

/-- 'laws.FnExactLagOf': WHATEVER THE INPUT: true; the input reads as it did. -/
def fnExactLagOfSpec : ChangeSpec := { name := "fnExactLagOf", fn := fun _ => fun
  | [d1, d2, d3] => { results := [.lit (.bool true)], args := [d1, d2, d3] }
  | _ => none }
def fnExactLagOfRow : OpenClaim := { program := "ytcaegaeihnophaa", sum := "d864d4ac7366bd660550888703581370ff3c2bd4d4518e971bc61f42c8f6a5ae", func := "loop.example/g00763/laws.FnExactLagOf", spec := "fnExactLagOf", apart := false }
def FnExactLagOfSaid : Prop := fnExactLagOfRow.holds Try.pinned (OpenSpec.ofChange fnExactLagOfSpec)

/-- ITS FALSE NEIGHBOUR: 'it returns false'. Refute it at one input. -/
def fnExactLagOfWrong : ChangeSpec := { name := "fnExactLagOf", fn := fun _ => fun
  | [d1, d2, d3] => { results := [.lit (.bool false)], args := [d1, d2, d3] }
  | _ => none }
def FnExactLagOfWrongFalsely : Prop := fnExactLagOfRow.holds Try.pinned (OpenSpec.ofChange fnExactLagOfWrong)

/-- 'laws.FnExactWorstLag': WHATEVER THE INPUT: true; the input reads as it did. -/
def fnExactWorstLagSpec : ChangeSpec := { name := "fnExactWorstLag", fn := fun _ => fun
  | [d1, d2] => { results := [.lit (.bool true)], args := [d1, d2] }
  | _ => none }
def fnExactWorstLagRow : OpenClaim := { program := "ytcaegaeihnophaa", sum := "d864d4ac7366bd660550888703581370ff3c2bd4d4518e971bc61f42c8f6a5ae", func := "loop.example/g00763/laws.FnExactWorstLag", spec := "fnExactWorstLag", apart := false }
def FnExactWorstLagSaid : Prop := fnExactWorstLagRow.holds Try.pinned (OpenSpec.ofChange fnExactWorstLagSpec)

/-- ITS FALSE NEIGHBOUR: 'it returns false'. Refute it at one input. -/
def fnExactWorstLagWrong : ChangeSpec := { name := "fnExactWorstLag", fn := fun _ => fun
  | [d1, d2] => { results := [.lit (.bool false)], args := [d1, d2] }
  | _ => none }
def FnExactWorstLagWrongFalsely : Prop := fnExactWorstLagRow.holds Try.pinned (OpenSpec.ofChange fnExactWorstLagWrong)

/- THE SECOND FORM. 'bulk': how many values and letters a reading holds, each counted each time it is reached (what is shared counts as often as it is met; a slice's spare places count too). A statement '..UptoSaid' is the law's where the arguments, and the package variables that the reading takes, are together of bulk at most 1048576: NARROWER than '..Said'. Prove '..Said' where nothing that the law and all that it calls make is longer than what came in: it says more and counts as full. Else prove '..UptoSaid'. A law counts once. -/
mutual
def uptoBulk {H : Type} : DataW H → Nat
  | .lit (.string bytes) => bytes.length + 1
  | .lit _ => 1
  | .nil => 1
  | .ptr d => uptoBulk d + 1
  | .slice elems spare => uptoBulkAll elems + uptoBulkAll spare + 1
  | .agg parts => uptoBulkAll parts + 1
  | .iface _ d => uptoBulk d + 1
  | .map entries => uptoBulkEntries entries + 1
  | .held _ => 1
def uptoBulkAll {H : Type} : List (DataW H) → Nat
  | [] => 0
  | d :: r => uptoBulk d + uptoBulkAll r
def uptoBulkEntries {H : Type} : List (Lit × DataW H) → Nat
  | [] => 0
  | x :: r => uptoBulkEntry x + uptoBulkEntries r
def uptoBulkEntry {H : Type} : Lit × DataW H → Nat
  | (.string bytes, d) => bytes.length + uptoBulk d + 1
  | (_, d) => uptoBulk d + 1
 end
def uptoSmall : (H : Type) → List (DataW H) → Bool := fun _ ds => decide (uptoBulkAll ds ≤ 1048576)
def OpenSpec.upto (s : _root_.Go.ChangeSpec) : _root_.Go.OpenSpec := { _root_.Go.OpenSpec.ofChange s with cond := some uptoSmall }

/-- 'laws.FnLags', WHERE WHAT IT READS IS OF BULK AT MOST 1048576: true; the input reads as it did. -/
def fnLagsUptoRow : OpenClaim := { program := "ytcaegaeihnophaa", sum := "d864d4ac7366bd660550888703581370ff3c2bd4d4518e971bc61f42c8f6a5ae", func := "loop.example/g00763/laws.FnLags", spec := "fnLags", apart := false, narrowed := true }
def FnLagsUptoSaid : Prop := fnLagsUptoRow.holds Try.pinned (OpenSpec.upto fnLagsSpec)

/-- 'laws.FnExactCountsOk', WHERE WHAT IT READS IS OF BULK AT MOST 1048576: true; the input reads as it did. -/
def fnExactCountsOkUptoRow : OpenClaim := { program := "ytcaegaeihnophaa", sum := "d864d4ac7366bd660550888703581370ff3c2bd4d4518e971bc61f42c8f6a5ae", func := "loop.example/g00763/laws.FnExactCountsOk", spec := "fnExactCountsOk", apart := false, narrowed := true }
def FnExactCountsOkUptoSaid : Prop := fnExactCountsOkUptoRow.holds Try.pinned (OpenSpec.upto fnExactCountsOkSpec)

/-- 'laws.FnExactTurnsOf', WHERE WHAT IT READS IS OF BULK AT MOST 1048576: true; the input reads as it did. -/
def fnExactTurnsOfUptoRow : OpenClaim := { program := "ytcaegaeihnophaa", sum := "d864d4ac7366bd660550888703581370ff3c2bd4d4518e971bc61f42c8f6a5ae", func := "loop.example/g00763/laws.FnExactTurnsOf", spec := "fnExactTurnsOf", apart := false, narrowed := true }
def FnExactTurnsOfUptoSaid : Prop := fnExactTurnsOfUptoRow.holds Try.pinned (OpenSpec.upto fnExactTurnsOfSpec)

/-- 'laws.FnExactLagOf', WHERE WHAT IT READS IS OF BULK AT MOST 1048576: true; the input reads as it did. -/
def fnExactLagOfUptoRow : OpenClaim := { program := "ytcaegaeihnophaa", sum := "d864d4ac7366bd660550888703581370ff3c2bd4d4518e971bc61f42c8f6a5ae", func := "loop.example/g00763/laws.FnExactLagOf", spec := "fnExactLagOf", apart := false, narrowed := true }
def FnExactLagOfUptoSaid : Prop := fnExactLagOfUptoRow.holds Try.pinned (OpenSpec.upto fnExactLagOfSpec)

/-- 'laws.FnExactWorstLag', WHERE WHAT IT READS IS OF BULK AT MOST 1048576: true; the input reads as it did. -/
def fnExactWorstLagUptoRow : OpenClaim := { program := "ytcaegaeihnophaa", sum := "d864d4ac7366bd660550888703581370ff3c2bd4d4518e971bc61f42c8f6a5ae", func := "loop.example/g00763/laws.FnExactWorstLag", spec := "fnExactWorstLag", apart := false, narrowed := true }
def FnExactWorstLagUptoSaid : Prop := fnExactWorstLagUptoRow.holds Try.pinned (OpenSpec.upto fnExactWorstLagSpec)

end Rows
end Go.Proofs.Ytcaegaeihnophaa
