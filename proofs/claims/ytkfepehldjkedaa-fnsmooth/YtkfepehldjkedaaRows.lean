/-
  No cell of these rows narrows 'for every input' (looked for: loops, veiled, ifaces, maps, wideKeys, modest, calm, conditions, laid).
  DERIVED. THE GIVEN ROWS OF THIS SEAT. 6 by the template 'for every input the law returns true; each argument reads behind the call as it read before'; 0 by the template 'total and deterministic' (their statements: YtkfepehldjkedaaTotals.lean).
  GIVEN WITH THE SEED: the statements are not yours to turn. If you find one false, say at which input.
  Laid BY PROGRAM, IN A SANDBOX (cutbox-rows.mjs): the forced cells as the released guide's own fill.sh prints them over the translation c778efca2a35588f… (all of the seat's roots in one cut). By AI agents, Wed Nov 11 2026. No macro, syntax, notation, axiom, sorry.
-/
import Derived.Test.YtkfepehldjkedaaChecked
import GoSem.Claim
import GoSem.ClaimJoined
import GoSem.ClaimMapViews
import Derived.JoinedTies
import Derived.KernelRfl
namespace Go.Proofs.Ytkfepehldjkedaa
/- THE CELL 'sum', in the pinned program and in every row, IS THE sha256 OF THE DUMP (.gsa) THAT YtkfepehldjkedaaProg.lean LOADS. Nothing in Lean hashes anything: it is a label: what it is worth is what the hold of that sum in a sandbox is worth. -/
noncomputable def Try.pinned : Pinned := { name := "ytkfepehldjkedaa", sum := "c778efca2a35588f20454ea1bdd666664986bd4d3c4bfcfb304b226b1e86292e", checked := Try.checked }
namespace Rows
def none {H : Type} : Left H := { results := [], args := [] }

/-- 'laws.FnSmooth': WHATEVER THE INPUT: true; the input reads as it did. -/
def fnSmoothSpec : ChangeSpec := { name := "fnSmooth", fn := fun _ => fun
  | [d] => { results := [.lit (.bool true)], args := [d] }
  | _ => none }
def fnSmoothRow : OpenClaim := { program := "ytkfepehldjkedaa", sum := "c778efca2a35588f20454ea1bdd666664986bd4d3c4bfcfb304b226b1e86292e", func := "loop.example/g00763/laws.FnSmooth", spec := "fnSmooth", unfollowed := true, recurses := true, apart := false }
def FnSmoothSaid : Prop := fnSmoothRow.holds Try.pinned (OpenSpec.ofChange fnSmoothSpec)

/-- ITS FALSE NEIGHBOUR: 'it returns false'. Refute it at one input. -/
def fnSmoothWrong : ChangeSpec := { name := "fnSmooth", fn := fun _ => fun
  | [d] => { results := [.lit (.bool false)], args := [d] }
  | _ => none }
def FnSmoothWrongFalsely : Prop := fnSmoothRow.holds Try.pinned (OpenSpec.ofChange fnSmoothWrong)

/-- 'laws.FnSmoothRun': WHATEVER THE INPUT: true; the input reads as it did. -/
def fnSmoothRunSpec : ChangeSpec := { name := "fnSmoothRun", fn := fun _ => fun
  | [d] => { results := [.lit (.bool true)], args := [d] }
  | _ => none }
def fnSmoothRunRow : OpenClaim := { program := "ytkfepehldjkedaa", sum := "c778efca2a35588f20454ea1bdd666664986bd4d3c4bfcfb304b226b1e86292e", func := "loop.example/g00763/laws.FnSmoothRun", spec := "fnSmoothRun", unfollowed := true, recurses := true, apart := false }
def FnSmoothRunSaid : Prop := fnSmoothRunRow.holds Try.pinned (OpenSpec.ofChange fnSmoothRunSpec)

/-- ITS FALSE NEIGHBOUR: 'it returns false'. Refute it at one input. -/
def fnSmoothRunWrong : ChangeSpec := { name := "fnSmoothRun", fn := fun _ => fun
  | [d] => { results := [.lit (.bool false)], args := [d] }
  | _ => none }
def FnSmoothRunWrongFalsely : Prop := fnSmoothRunRow.holds Try.pinned (OpenSpec.ofChange fnSmoothRunWrong)

/-- 'laws.FnExactSmoothOk': WHATEVER THE INPUT: true; the input reads as it did. -/
def fnExactSmoothOkSpec : ChangeSpec := { name := "fnExactSmoothOk", fn := fun _ => fun
  | [d] => { results := [.lit (.bool true)], args := [d] }
  | _ => none }
def fnExactSmoothOkRow : OpenClaim := { program := "ytkfepehldjkedaa", sum := "c778efca2a35588f20454ea1bdd666664986bd4d3c4bfcfb304b226b1e86292e", func := "loop.example/g00763/laws.FnExactSmoothOk", spec := "fnExactSmoothOk", apart := false }
def FnExactSmoothOkSaid : Prop := fnExactSmoothOkRow.holds Try.pinned (OpenSpec.ofChange fnExactSmoothOkSpec)

/-- ITS FALSE NEIGHBOUR: 'it returns false'. Refute it at one input. -/
def fnExactSmoothOkWrong : ChangeSpec := { name := "fnExactSmoothOk", fn := fun _ => fun
  | [d] => { results := [.lit (.bool false)], args := [d] }
  | _ => none }
def FnExactSmoothOkWrongFalsely : Prop := fnExactSmoothOkRow.holds Try.pinned (OpenSpec.ofChange fnExactSmoothOkWrong)

/-- 'laws.FnExactNewSmooth': WHATEVER THE INPUT: true; the input reads as it did. -/
def fnExactNewSmoothSpec : ChangeSpec := { name := "fnExactNewSmooth", fn := fun _ => fun
  | [d] => { results := [.lit (.bool true)], args := [d] }
  | _ => none }
def fnExactNewSmoothRow : OpenClaim := { program := "ytkfepehldjkedaa", sum := "c778efca2a35588f20454ea1bdd666664986bd4d3c4bfcfb304b226b1e86292e", func := "loop.example/g00763/laws.FnExactNewSmooth", spec := "fnExactNewSmooth", apart := false }
def FnExactNewSmoothSaid : Prop := fnExactNewSmoothRow.holds Try.pinned (OpenSpec.ofChange fnExactNewSmoothSpec)

/-- ITS FALSE NEIGHBOUR: 'it returns false'. Refute it at one input. -/
def fnExactNewSmoothWrong : ChangeSpec := { name := "fnExactNewSmooth", fn := fun _ => fun
  | [d] => { results := [.lit (.bool false)], args := [d] }
  | _ => none }
def FnExactNewSmoothWrongFalsely : Prop := fnExactNewSmoothRow.holds Try.pinned (OpenSpec.ofChange fnExactNewSmoothWrong)

/-- 'laws.FnExactSmoothNext': WHATEVER THE INPUT: true; the input reads as it did. -/
def fnExactSmoothNextSpec : ChangeSpec := { name := "fnExactSmoothNext", fn := fun _ => fun
  | [d] => { results := [.lit (.bool true)], args := [d] }
  | _ => none }
def fnExactSmoothNextRow : OpenClaim := { program := "ytkfepehldjkedaa", sum := "c778efca2a35588f20454ea1bdd666664986bd4d3c4bfcfb304b226b1e86292e", func := "loop.example/g00763/laws.FnExactSmoothNext", spec := "fnExactSmoothNext", unfollowed := true, recurses := true, apart := false }
def FnExactSmoothNextSaid : Prop := fnExactSmoothNextRow.holds Try.pinned (OpenSpec.ofChange fnExactSmoothNextSpec)

/-- ITS FALSE NEIGHBOUR: 'it returns false'. Refute it at one input. -/
def fnExactSmoothNextWrong : ChangeSpec := { name := "fnExactSmoothNext", fn := fun _ => fun
  | [d] => { results := [.lit (.bool false)], args := [d] }
  | _ => none }
def FnExactSmoothNextWrongFalsely : Prop := fnExactSmoothNextRow.holds Try.pinned (OpenSpec.ofChange fnExactSmoothNextWrong)

/-- 'laws.FnExactSmoothRun': WHATEVER THE INPUT: true; the input reads as it did. -/
def fnExactSmoothRunSpec : ChangeSpec := { name := "fnExactSmoothRun", fn := fun _ => fun
  | [d1, d2] => { results := [.lit (.bool true)], args := [d1, d2] }
  | _ => none }
def fnExactSmoothRunRow : OpenClaim := { program := "ytkfepehldjkedaa", sum := "c778efca2a35588f20454ea1bdd666664986bd4d3c4bfcfb304b226b1e86292e", func := "loop.example/g00763/laws.FnExactSmoothRun", spec := "fnExactSmoothRun", unfollowed := true, recurses := true, apart := false }
def FnExactSmoothRunSaid : Prop := fnExactSmoothRunRow.holds Try.pinned (OpenSpec.ofChange fnExactSmoothRunSpec)

/-- ITS FALSE NEIGHBOUR: 'it returns false'. Refute it at one input. -/
def fnExactSmoothRunWrong : ChangeSpec := { name := "fnExactSmoothRun", fn := fun _ => fun
  | [d1, d2] => { results := [.lit (.bool false)], args := [d1, d2] }
  | _ => none }
def FnExactSmoothRunWrongFalsely : Prop := fnExactSmoothRunRow.holds Try.pinned (OpenSpec.ofChange fnExactSmoothRunWrong)

/- THE SECOND FORM. 'bulk': how many values and letters a reading holds, each counted each time it is reached (what is shared counts as often as it is met; a slice's spare places count too). A statement '..UptoSaid' is the law's where the arguments, and the package variables that the reading takes, are together of bulk at most 1048576: NARROWER than '..Said'. Prove '..Said' where nothing that the law and all that it calls make is longer than what came in: it says more and counts as full. Else prove '..UptoSaid'. A law counts once. -/
mutual
def uptoBulk {H : Type} : DataW H → Nat
  | .lit (.string bytes) => bytes.length + 1
  | .lit _ => 1
  | .nil => 1
  | .ptr d => uptoBulk d + 1
  | .slice elems spare => uptoBulkAll elems + uptoBulkAll spare + 1
  | .agg parts => uptoBulkAll parts + 1
  | .iface _ d => uptoBulk d + 1
  | .map entries => uptoBulkEntries entries + 1
  | .held _ => 1
def uptoBulkAll {H : Type} : List (DataW H) → Nat
  | [] => 0
  | d :: r => uptoBulk d + uptoBulkAll r
def uptoBulkEntries {H : Type} : List (Lit × DataW H) → Nat
  | [] => 0
  | x :: r => uptoBulkEntry x + uptoBulkEntries r
def uptoBulkEntry {H : Type} : Lit × DataW H → Nat
  | (.string bytes, d) => bytes.length + uptoBulk d + 1
  | (_, d) => uptoBulk d + 1
 end
def uptoSmall : (H : Type) → List (DataW H) → Bool := fun _ ds => decide (uptoBulkAll ds ≤ 1048576)
def OpenSpec.upto (s : _root_.Go.ChangeSpec) : _root_.Go.OpenSpec := { _root_.Go.OpenSpec.ofChange s with cond := some uptoSmall }

/-- 'laws.FnSmooth', WHERE WHAT IT READS IS OF BULK AT MOST 1048576: true; the input reads as it did. -/
def fnSmoothUptoRow : OpenClaim := { program := "ytkfepehldjkedaa", sum := "c778efca2a35588f20454ea1bdd666664986bd4d3c4bfcfb304b226b1e86292e", func := "loop.example/g00763/laws.FnSmooth", spec := "fnSmooth", unfollowed := true, recurses := true, apart := false, narrowed := true }
def FnSmoothUptoSaid : Prop := fnSmoothUptoRow.holds Try.pinned (OpenSpec.upto fnSmoothSpec)

/-- 'laws.FnSmoothRun', WHERE WHAT IT READS IS OF BULK AT MOST 1048576: true; the input reads as it did. -/
def fnSmoothRunUptoRow : OpenClaim := { program := "ytkfepehldjkedaa", sum := "c778efca2a35588f20454ea1bdd666664986bd4d3c4bfcfb304b226b1e86292e", func := "loop.example/g00763/laws.FnSmoothRun", spec := "fnSmoothRun", unfollowed := true, recurses := true, apart := false, narrowed := true }
def FnSmoothRunUptoSaid : Prop := fnSmoothRunUptoRow.holds Try.pinned (OpenSpec.upto fnSmoothRunSpec)

/-- 'laws.FnExactSmoothOk', WHERE WHAT IT READS IS OF BULK AT MOST 1048576: true; the input reads as it did. -/
def fnExactSmoothOkUptoRow : OpenClaim := { program := "ytkfepehldjkedaa", sum := "c778efca2a35588f20454ea1bdd666664986bd4d3c4bfcfb304b226b1e86292e", func := "loop.example/g00763/laws.FnExactSmoothOk", spec := "fnExactSmoothOk", apart := false, narrowed := true }
def FnExactSmoothOkUptoSaid : Prop := fnExactSmoothOkUptoRow.holds Try.pinned (OpenSpec.upto fnExactSmoothOkSpec)

/-- 'laws.FnExactNewSmooth', WHERE WHAT IT READS IS OF BULK AT MOST 1048576: true; the input reads as it did. -/
def fnExactNewSmoothUptoRow : OpenClaim := { program := "ytkfepehldjkedaa", sum := "c778efca2a35588f20454ea1bdd666664986bd4d3c4bfcfb304b226b1e86292e", func := "loop.example/g00763/laws.FnExactNewSmooth", spec := "fnExactNewSmooth", apart := false, narrowed := true }
def FnExactNewSmoothUptoSaid : Prop := fnExactNewSmoothUptoRow.holds Try.pinned (OpenSpec.upto fnExactNewSmoothSpec)

/-- 'laws.FnExactSmoothNext', WHERE WHAT IT READS IS OF BULK AT MOST 1048576: true; the input reads as it did. -/
def fnExactSmoothNextUptoRow : OpenClaim := { program := "ytkfepehldjkedaa", sum := "c778efca2a35588f20454ea1bdd666664986bd4d3c4bfcfb304b226b1e86292e", func := "loop.example/g00763/laws.FnExactSmoothNext", spec := "fnExactSmoothNext", unfollowed := true, recurses := true, apart := false, narrowed := true }
def FnExactSmoothNextUptoSaid : Prop := fnExactSmoothNextUptoRow.holds Try.pinned (OpenSpec.upto fnExactSmoothNextSpec)

/-- 'laws.FnExactSmoothRun', WHERE WHAT IT READS IS OF BULK AT MOST 1048576: true; the input reads as it did. -/
def fnExactSmoothRunUptoRow : OpenClaim := { program := "ytkfepehldjkedaa", sum := "c778efca2a35588f20454ea1bdd666664986bd4d3c4bfcfb304b226b1e86292e", func := "loop.example/g00763/laws.FnExactSmoothRun", spec := "fnExactSmoothRun", unfollowed := true, recurses := true, apart := false, narrowed := true }
def FnExactSmoothRunUptoSaid : Prop := fnExactSmoothRunUptoRow.holds Try.pinned (OpenSpec.upto fnExactSmoothRunSpec)

end Rows
end Go.Proofs.Ytkfepehldjkedaa
