/-
  No cell of these rows narrows 'for every input' (looked for: loops, veiled, ifaces, maps, wideKeys, modest, calm, conditions, laid).
  DERIVED. THE GIVEN ROWS OF THIS SEAT. 4 by the template 'for every input the law returns true; each argument reads behind the call as it read before'; 0 by the template 'total and deterministic' (their statements: YtfmcnamjhnnimaaTotals.lean).
  GIVEN WITH THE SEED: the statements are not yours to turn. If you find one false, say at which input.
  Laid BY PROGRAM, IN A SANDBOX (cutbox-rows.mjs): the forced cells as the released guide's own fill.sh prints them over the translation 522e831b4899a7cf… (all of the seat's roots in one cut). By AI agents, Wed Nov 11 2026. No macro, syntax, notation, axiom, sorry.
-/
import Derived.Test.YtfmcnamjhnnimaaChecked
import GoSem.Claim
import GoSem.ClaimJoined
import GoSem.ClaimMapViews
import Derived.JoinedTies
import Derived.KernelRfl
namespace Go.Proofs.Ytfmcnamjhnnimaa
/- THE CELL 'sum', in the pinned program and in every row, IS THE sha256 OF THE DUMP (.gsa) THAT YtfmcnamjhnnimaaProg.lean LOADS. Nothing in Lean hashes anything: it is a label: what it is worth is what the hold of that sum in a sandbox is worth. -/
noncomputable def Try.pinned : Pinned := { name := "ytfmcnamjhnnimaa", sum := "522e831b4899a7cf9095b64046cd8916ab490a889491a2a5e2201e4be3cf2f7b", checked := Try.checked }
namespace Rows
def none {H : Type} : Left H := { results := [], args := [] }

/-- 'laws.FnExactTasksOk': WHATEVER THE INPUT: true; the input reads as it did. -/
def fnExactTasksOkSpec : ChangeSpec := { name := "fnExactTasksOk", fn := fun _ => fun
  | [d] => { results := [.lit (.bool true)], args := [d] }
  | _ => none }
def fnExactTasksOkRow : OpenClaim := { program := "ytfmcnamjhnnimaa", sum := "522e831b4899a7cf9095b64046cd8916ab490a889491a2a5e2201e4be3cf2f7b", func := "loop.example/g00763/laws.FnExactTasksOk", spec := "fnExactTasksOk", apart := false }
def FnExactTasksOkSaid : Prop := fnExactTasksOkRow.holds Try.pinned (OpenSpec.ofChange fnExactTasksOkSpec)

/-- ITS FALSE NEIGHBOUR: 'it returns false'. Refute it at one input. -/
def fnExactTasksOkWrong : ChangeSpec := { name := "fnExactTasksOk", fn := fun _ => fun
  | [d] => { results := [.lit (.bool false)], args := [d] }
  | _ => none }
def FnExactTasksOkWrongFalsely : Prop := fnExactTasksOkRow.holds Try.pinned (OpenSpec.ofChange fnExactTasksOkWrong)

/-- 'laws.FnExactFindTask': WHATEVER THE INPUT: true; the input reads as it did. -/
def fnExactFindTaskSpec : ChangeSpec := { name := "fnExactFindTask", fn := fun _ => fun
  | [d1, d2] => { results := [.lit (.bool true)], args := [d1, d2] }
  | _ => none }
def fnExactFindTaskRow : OpenClaim := { program := "ytfmcnamjhnnimaa", sum := "522e831b4899a7cf9095b64046cd8916ab490a889491a2a5e2201e4be3cf2f7b", func := "loop.example/g00763/laws.FnExactFindTask", spec := "fnExactFindTask", unfollowed := true, recurses := true, apart := false }
def FnExactFindTaskSaid : Prop := fnExactFindTaskRow.holds Try.pinned (OpenSpec.ofChange fnExactFindTaskSpec)

/-- ITS FALSE NEIGHBOUR: 'it returns false'. Refute it at one input. -/
def fnExactFindTaskWrong : ChangeSpec := { name := "fnExactFindTask", fn := fun _ => fun
  | [d1, d2] => { results := [.lit (.bool false)], args := [d1, d2] }
  | _ => none }
def FnExactFindTaskWrongFalsely : Prop := fnExactFindTaskRow.holds Try.pinned (OpenSpec.ofChange fnExactFindTaskWrong)

/-- 'laws.FnExactCreated': WHATEVER THE INPUT: true; the input reads as it did. -/
def fnExactCreatedSpec : ChangeSpec := { name := "fnExactCreated", fn := fun _ => fun
  | [d1, d2, d3] => { results := [.lit (.bool true)], args := [d1, d2, d3] }
  | _ => none }
def fnExactCreatedRow : OpenClaim := { program := "ytfmcnamjhnnimaa", sum := "522e831b4899a7cf9095b64046cd8916ab490a889491a2a5e2201e4be3cf2f7b", func := "loop.example/g00763/laws.FnExactCreated", spec := "fnExactCreated", unfollowed := true, recurses := true, apart := false }
def FnExactCreatedSaid : Prop := fnExactCreatedRow.holds Try.pinned (OpenSpec.ofChange fnExactCreatedSpec)

/-- ITS FALSE NEIGHBOUR: 'it returns false'. Refute it at one input. -/
def fnExactCreatedWrong : ChangeSpec := { name := "fnExactCreated", fn := fun _ => fun
  | [d1, d2, d3] => { results := [.lit (.bool false)], args := [d1, d2, d3] }
  | _ => none }
def FnExactCreatedWrongFalsely : Prop := fnExactCreatedRow.holds Try.pinned (OpenSpec.ofChange fnExactCreatedWrong)

/-- 'laws.FnExactReadyOf': WHATEVER THE INPUT: true; the input reads as it did. -/
def fnExactReadyOfSpec : ChangeSpec := { name := "fnExactReadyOf", fn := fun _ => fun
  | [d] => { results := [.lit (.bool true)], args := [d] }
  | _ => none }
def fnExactReadyOfRow : OpenClaim := { program := "ytfmcnamjhnnimaa", sum := "522e831b4899a7cf9095b64046cd8916ab490a889491a2a5e2201e4be3cf2f7b", func := "loop.example/g00763/laws.FnExactReadyOf", spec := "fnExactReadyOf", apart := false }
def FnExactReadyOfSaid : Prop := fnExactReadyOfRow.holds Try.pinned (OpenSpec.ofChange fnExactReadyOfSpec)

/-- ITS FALSE NEIGHBOUR: 'it returns false'. Refute it at one input. -/
def fnExactReadyOfWrong : ChangeSpec := { name := "fnExactReadyOf", fn := fun _ => fun
  | [d] => { results := [.lit (.bool false)], args := [d] }
  | _ => none }
def FnExactReadyOfWrongFalsely : Prop := fnExactReadyOfRow.holds Try.pinned (OpenSpec.ofChange fnExactReadyOfWrong)

/- THE SECOND FORM. 'bulk': how many values and letters a reading holds, each counted each time it is reached (what is shared counts as often as it is met; a slice's spare places count too). A statement '..UptoSaid' is the law's where the arguments, and the package variables that the reading takes, are together of bulk at most 1048576: NARROWER than '..Said'. Prove '..Said' where nothing that the law and all that it calls make is longer than what came in: it says more and counts as full. Else prove '..UptoSaid'. A law counts once. -/
mutual
def uptoBulk {H : Type} : DataW H → Nat
  | .lit (.string bytes) => bytes.length + 1
  | .lit _ => 1
  | .nil => 1
  | .ptr d => uptoBulk d + 1
  | .slice elems spare => uptoBulkAll elems + uptoBulkAll spare + 1
  | .agg parts => uptoBulkAll parts + 1
  | .iface _ d => uptoBulk d + 1
  | .map entries => uptoBulkEntries entries + 1
  | .held _ => 1
def uptoBulkAll {H : Type} : List (DataW H) → Nat
  | [] => 0
  | d :: r => uptoBulk d + uptoBulkAll r
def uptoBulkEntries {H : Type} : List (Lit × DataW H) → Nat
  | [] => 0
  | x :: r => uptoBulkEntry x + uptoBulkEntries r
def uptoBulkEntry {H : Type} : Lit × DataW H → Nat
  | (.string bytes, d) => bytes.length + uptoBulk d + 1
  | (_, d) => uptoBulk d + 1
 end
def uptoSmall : (H : Type) → List (DataW H) → Bool := fun _ ds => decide (uptoBulkAll ds ≤ 1048576)
def OpenSpec.upto (s : _root_.Go.ChangeSpec) : _root_.Go.OpenSpec := { _root_.Go.OpenSpec.ofChange s with cond := some uptoSmall }

/-- 'laws.FnExactTasksOk', WHERE WHAT IT READS IS OF BULK AT MOST 1048576: true; the input reads as it did. -/
def fnExactTasksOkUptoRow : OpenClaim := { program := "ytfmcnamjhnnimaa", sum := "522e831b4899a7cf9095b64046cd8916ab490a889491a2a5e2201e4be3cf2f7b", func := "loop.example/g00763/laws.FnExactTasksOk", spec := "fnExactTasksOk", apart := false, narrowed := true }
def FnExactTasksOkUptoSaid : Prop := fnExactTasksOkUptoRow.holds Try.pinned (OpenSpec.upto fnExactTasksOkSpec)

/-- 'laws.FnExactFindTask', WHERE WHAT IT READS IS OF BULK AT MOST 1048576: true; the input reads as it did. -/
def fnExactFindTaskUptoRow : OpenClaim := { program := "ytfmcnamjhnnimaa", sum := "522e831b4899a7cf9095b64046cd8916ab490a889491a2a5e2201e4be3cf2f7b", func := "loop.example/g00763/laws.FnExactFindTask", spec := "fnExactFindTask", unfollowed := true, recurses := true, apart := false, narrowed := true }
def FnExactFindTaskUptoSaid : Prop := fnExactFindTaskUptoRow.holds Try.pinned (OpenSpec.upto fnExactFindTaskSpec)

/-- 'laws.FnExactCreated', WHERE WHAT IT READS IS OF BULK AT MOST 1048576: true; the input reads as it did. -/
def fnExactCreatedUptoRow : OpenClaim := { program := "ytfmcnamjhnnimaa", sum := "522e831b4899a7cf9095b64046cd8916ab490a889491a2a5e2201e4be3cf2f7b", func := "loop.example/g00763/laws.FnExactCreated", spec := "fnExactCreated", unfollowed := true, recurses := true, apart := false, narrowed := true }
def FnExactCreatedUptoSaid : Prop := fnExactCreatedUptoRow.holds Try.pinned (OpenSpec.upto fnExactCreatedSpec)

/-- 'laws.FnExactReadyOf', WHERE WHAT IT READS IS OF BULK AT MOST 1048576: true; the input reads as it did. -/
def fnExactReadyOfUptoRow : OpenClaim := { program := "ytfmcnamjhnnimaa", sum := "522e831b4899a7cf9095b64046cd8916ab490a889491a2a5e2201e4be3cf2f7b", func := "loop.example/g00763/laws.FnExactReadyOf", spec := "fnExactReadyOf", apart := false, narrowed := true }
def FnExactReadyOfUptoSaid : Prop := fnExactReadyOfUptoRow.holds Try.pinned (OpenSpec.upto fnExactReadyOfSpec)

end Rows
end Go.Proofs.Ytfmcnamjhnnimaa
