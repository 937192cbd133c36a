/-
  No cell of these rows narrows 'for every input' (looked for: loops, veiled, ifaces, maps, wideKeys, modest, calm, conditions, laid).
  DERIVED. THE GIVEN ROWS OF THIS SEAT. 7 by the template 'for every input the law returns true; each argument reads behind the call as it read before'; 0 by the template 'total and deterministic' (their statements: YtlicjbnagapdeaaTotals.lean).
  GIVEN WITH THE SEED: the statements are not yours to turn. If you find one false, say at which input.
  Laid BY PROGRAM, IN A SANDBOX (cutbox-rows.mjs): the forced cells as the released guide's own fill.sh prints them over the translation 8e855654f8dd56b2… (all of the seat's roots in one cut). By AI agents, Wed Nov 11 2026. No macro, syntax, notation, axiom, sorry.
-/
import Derived.Test.YtlicjbnagapdeaaChecked
import GoSem.Claim
import GoSem.ClaimJoined
import GoSem.ClaimMapViews
import Derived.JoinedTies
import Derived.KernelRfl
namespace Go.Proofs.Ytlicjbnagapdeaa
/- THE CELL 'sum', in the pinned program and in every row, IS THE sha256 OF THE DUMP (.gsa) THAT YtlicjbnagapdeaaProg.lean LOADS. Nothing in Lean hashes anything: it is a label: what it is worth is what the hold of that sum in a sandbox is worth. -/
noncomputable def Try.pinned : Pinned := { name := "ytlicjbnagapdeaa", sum := "8e855654f8dd56b22608387f6e209cb9ca46a2dcc7d3edf67be0838faef7afe9", checked := Try.checked }
namespace Rows
def none {H : Type} : Left H := { results := [], args := [] }

/-- 'laws.FnList': WHATEVER THE INPUT: true; the input reads as it did. -/
def fnListSpec : ChangeSpec := { name := "fnList", fn := fun _ => fun
  | [d] => { results := [.lit (.bool true)], args := [d] }
  | _ => none }
def fnListRow : OpenClaim := { program := "ytlicjbnagapdeaa", sum := "8e855654f8dd56b22608387f6e209cb9ca46a2dcc7d3edf67be0838faef7afe9", func := "loop.example/g00763/laws.FnList", spec := "fnList", unfollowed := true, recurses := true, apart := false }
def FnListSaid : Prop := fnListRow.holds Try.pinned (OpenSpec.ofChange fnListSpec)

/-- ITS FALSE NEIGHBOUR: 'it returns false'. Refute it at one input. -/
def fnListWrong : ChangeSpec := { name := "fnList", fn := fun _ => fun
  | [d] => { results := [.lit (.bool false)], args := [d] }
  | _ => none }
def FnListWrongFalsely : Prop := fnListRow.holds Try.pinned (OpenSpec.ofChange fnListWrong)

/-- 'laws.FnListRun': WHATEVER THE INPUT: true; the input reads as it did. -/
def fnListRunSpec : ChangeSpec := { name := "fnListRun", fn := fun _ => fun
  | [d] => { results := [.lit (.bool true)], args := [d] }
  | _ => none }
def fnListRunRow : OpenClaim := { program := "ytlicjbnagapdeaa", sum := "8e855654f8dd56b22608387f6e209cb9ca46a2dcc7d3edf67be0838faef7afe9", func := "loop.example/g00763/laws.FnListRun", spec := "fnListRun", unfollowed := true, recurses := true, apart := false }
def FnListRunSaid : Prop := fnListRunRow.holds Try.pinned (OpenSpec.ofChange fnListRunSpec)

/-- ITS FALSE NEIGHBOUR: 'it returns false'. Refute it at one input. -/
def fnListRunWrong : ChangeSpec := { name := "fnListRun", fn := fun _ => fun
  | [d] => { results := [.lit (.bool false)], args := [d] }
  | _ => none }
def FnListRunWrongFalsely : Prop := fnListRunRow.holds Try.pinned (OpenSpec.ofChange fnListRunWrong)

/-- 'laws.FnExactListOk': WHATEVER THE INPUT: true; the input reads as it did. -/
def fnExactListOkSpec : ChangeSpec := { name := "fnExactListOk", fn := fun _ => fun
  | [d] => { results := [.lit (.bool true)], args := [d] }
  | _ => none }
def fnExactListOkRow : OpenClaim := { program := "ytlicjbnagapdeaa", sum := "8e855654f8dd56b22608387f6e209cb9ca46a2dcc7d3edf67be0838faef7afe9", func := "loop.example/g00763/laws.FnExactListOk", spec := "fnExactListOk", apart := false }
def FnExactListOkSaid : Prop := fnExactListOkRow.holds Try.pinned (OpenSpec.ofChange fnExactListOkSpec)

/-- ITS FALSE NEIGHBOUR: 'it returns false'. Refute it at one input. -/
def fnExactListOkWrong : ChangeSpec := { name := "fnExactListOk", fn := fun _ => fun
  | [d] => { results := [.lit (.bool false)], args := [d] }
  | _ => none }
def FnExactListOkWrongFalsely : Prop := fnExactListOkRow.holds Try.pinned (OpenSpec.ofChange fnExactListOkWrong)

/-- 'laws.FnExactNewList': WHATEVER THE INPUT: true; the input reads as it did. -/
def fnExactNewListSpec : ChangeSpec := { name := "fnExactNewList", fn := fun _ => fun
  | [d] => { results := [.lit (.bool true)], args := [d] }
  | _ => none }
def fnExactNewListRow : OpenClaim := { program := "ytlicjbnagapdeaa", sum := "8e855654f8dd56b22608387f6e209cb9ca46a2dcc7d3edf67be0838faef7afe9", func := "loop.example/g00763/laws.FnExactNewList", spec := "fnExactNewList", apart := false }
def FnExactNewListSaid : Prop := fnExactNewListRow.holds Try.pinned (OpenSpec.ofChange fnExactNewListSpec)

/-- ITS FALSE NEIGHBOUR: 'it returns false'. Refute it at one input. -/
def fnExactNewListWrong : ChangeSpec := { name := "fnExactNewList", fn := fun _ => fun
  | [d] => { results := [.lit (.bool false)], args := [d] }
  | _ => none }
def FnExactNewListWrongFalsely : Prop := fnExactNewListRow.holds Try.pinned (OpenSpec.ofChange fnExactNewListWrong)

/-- 'laws.FnExactLeftOf': WHATEVER THE INPUT: true; the input reads as it did. -/
def fnExactLeftOfSpec : ChangeSpec := { name := "fnExactLeftOf", fn := fun _ => fun
  | [d] => { results := [.lit (.bool true)], args := [d] }
  | _ => none }
def fnExactLeftOfRow : OpenClaim := { program := "ytlicjbnagapdeaa", sum := "8e855654f8dd56b22608387f6e209cb9ca46a2dcc7d3edf67be0838faef7afe9", func := "loop.example/g00763/laws.FnExactLeftOf", spec := "fnExactLeftOf", unfollowed := true, recurses := true, apart := false }
def FnExactLeftOfSaid : Prop := fnExactLeftOfRow.holds Try.pinned (OpenSpec.ofChange fnExactLeftOfSpec)

/-- ITS FALSE NEIGHBOUR: 'it returns false'. Refute it at one input. -/
def fnExactLeftOfWrong : ChangeSpec := { name := "fnExactLeftOf", fn := fun _ => fun
  | [d] => { results := [.lit (.bool false)], args := [d] }
  | _ => none }
def FnExactLeftOfWrongFalsely : Prop := fnExactLeftOfRow.holds Try.pinned (OpenSpec.ofChange fnExactLeftOfWrong)

/-- 'laws.FnExactListNext': WHATEVER THE INPUT: true; the input reads as it did. -/
def fnExactListNextSpec : ChangeSpec := { name := "fnExactListNext", fn := fun _ => fun
  | [d] => { results := [.lit (.bool true)], args := [d] }
  | _ => none }
def fnExactListNextRow : OpenClaim := { program := "ytlicjbnagapdeaa", sum := "8e855654f8dd56b22608387f6e209cb9ca46a2dcc7d3edf67be0838faef7afe9", func := "loop.example/g00763/laws.FnExactListNext", spec := "fnExactListNext", unfollowed := true, recurses := true, apart := false }
def FnExactListNextSaid : Prop := fnExactListNextRow.holds Try.pinned (OpenSpec.ofChange fnExactListNextSpec)

/-- ITS FALSE NEIGHBOUR: 'it returns false'. Refute it at one input. -/
def fnExactListNextWrong : ChangeSpec := { name := "fnExactListNext", fn := fun _ => fun
  | [d] => { results := [.lit (.bool false)], args := [d] }
  | _ => none }
def FnExactListNextWrongFalsely : Prop := fnExactListNextRow.holds Try.pinned (OpenSpec.ofChange fnExactListNextWrong)

/-- 'laws.FnExactListRun': WHATEVER THE INPUT: true; the input reads as it did. -/
def fnExactListRunSpec : ChangeSpec := { name := "fnExactListRun", fn := fun _ => fun
  | [d1, d2] => { results := [.lit (.bool true)], args := [d1, d2] }
  | _ => none }
def fnExactListRunRow : OpenClaim := { program := "ytlicjbnagapdeaa", sum := "8e855654f8dd56b22608387f6e209cb9ca46a2dcc7d3edf67be0838faef7afe9", func := "loop.example/g00763/laws.FnExactListRun", spec := "fnExactListRun", unfollowed := true, recurses := true, apart := false }
def FnExactListRunSaid : Prop := fnExactListRunRow.holds Try.pinned (OpenSpec.ofChange fnExactListRunSpec)

/-- ITS FALSE NEIGHBOUR: 'it returns false'. Refute it at one input. -/
def fnExactListRunWrong : ChangeSpec := { name := "fnExactListRun", fn := fun _ => fun
  | [d1, d2] => { results := [.lit (.bool false)], args := [d1, d2] }
  | _ => none }
def FnExactListRunWrongFalsely : Prop := fnExactListRunRow.holds Try.pinned (OpenSpec.ofChange fnExactListRunWrong)

/- THE SECOND FORM. 'bulk': how many values and letters a reading holds, each counted each time it is reached (what is shared counts as often as it is met; a slice's spare places count too). A statement '..UptoSaid' is the law's where the arguments, and the package variables that the reading takes, are together of bulk at most 1048576: NARROWER than '..Said'. Prove '..Said' where nothing that the law and all that it calls make is longer than what came in: it says more and counts as full. Else prove '..UptoSaid'. A law counts once. -/
mutual
def uptoBulk {H : Type} : DataW H → Nat
  | .lit (.string bytes) => bytes.length + 1
  | .lit _ => 1
  | .nil => 1
  | .ptr d => uptoBulk d + 1
  | .slice elems spare => uptoBulkAll elems + uptoBulkAll spare + 1
  | .agg parts => uptoBulkAll parts + 1
  | .iface _ d => uptoBulk d + 1
  | .map entries => uptoBulkEntries entries + 1
  | .held _ => 1
def uptoBulkAll {H : Type} : List (DataW H) → Nat
  | [] => 0
  | d :: r => uptoBulk d + uptoBulkAll r
def uptoBulkEntries {H : Type} : List (Lit × DataW H) → Nat
  | [] => 0
  | x :: r => uptoBulkEntry x + uptoBulkEntries r
def uptoBulkEntry {H : Type} : Lit × DataW H → Nat
  | (.string bytes, d) => bytes.length + uptoBulk d + 1
  | (_, d) => uptoBulk d + 1
 end
def uptoSmall : (H : Type) → List (DataW H) → Bool := fun _ ds => decide (uptoBulkAll ds ≤ 1048576)
def OpenSpec.upto (s : _root_.Go.ChangeSpec) : _root_.Go.OpenSpec := { _root_.Go.OpenSpec.ofChange s with cond := some uptoSmall }

/-- 'laws.FnList', WHERE WHAT IT READS IS OF BULK AT MOST 1048576: true; the input reads as it did. -/
def fnListUptoRow : OpenClaim := { program := "ytlicjbnagapdeaa", sum := "8e855654f8dd56b22608387f6e209cb9ca46a2dcc7d3edf67be0838faef7afe9", func := "loop.example/g00763/laws.FnList", spec := "fnList", unfollowed := true, recurses := true, apart := false, narrowed := true }
def FnListUptoSaid : Prop := fnListUptoRow.holds Try.pinned (OpenSpec.upto fnListSpec)

/-- 'laws.FnListRun', WHERE WHAT IT READS IS OF BULK AT MOST 1048576: true; the input reads as it did. -/
def fnListRunUptoRow : OpenClaim := { program := "ytlicjbnagapdeaa", sum := "8e855654f8dd56b22608387f6e209cb9ca46a2dcc7d3edf67be0838faef7afe9", func := "loop.example/g00763/laws.FnListRun", spec := "fnListRun", unfollowed := true, recurses := true, apart := false, narrowed := true }
def FnListRunUptoSaid : Prop := fnListRunUptoRow.holds Try.pinned (OpenSpec.upto fnListRunSpec)

/-- 'laws.FnExactListOk', WHERE WHAT IT READS IS OF BULK AT MOST 1048576: true; the input reads as it did. -/
def fnExactListOkUptoRow : OpenClaim := { program := "ytlicjbnagapdeaa", sum := "8e855654f8dd56b22608387f6e209cb9ca46a2dcc7d3edf67be0838faef7afe9", func := "loop.example/g00763/laws.FnExactListOk", spec := "fnExactListOk", apart := false, narrowed := true }
def FnExactListOkUptoSaid : Prop := fnExactListOkUptoRow.holds Try.pinned (OpenSpec.upto fnExactListOkSpec)

/-- 'laws.FnExactNewList', WHERE WHAT IT READS IS OF BULK AT MOST 1048576: true; the input reads as it did. -/
def fnExactNewListUptoRow : OpenClaim := { program := "ytlicjbnagapdeaa", sum := "8e855654f8dd56b22608387f6e209cb9ca46a2dcc7d3edf67be0838faef7afe9", func := "loop.example/g00763/laws.FnExactNewList", spec := "fnExactNewList", apart := false, narrowed := true }
def FnExactNewListUptoSaid : Prop := fnExactNewListUptoRow.holds Try.pinned (OpenSpec.upto fnExactNewListSpec)

/-- 'laws.FnExactLeftOf', WHERE WHAT IT READS IS OF BULK AT MOST 1048576: true; the input reads as it did. -/
def fnExactLeftOfUptoRow : OpenClaim := { program := "ytlicjbnagapdeaa", sum := "8e855654f8dd56b22608387f6e209cb9ca46a2dcc7d3edf67be0838faef7afe9", func := "loop.example/g00763/laws.FnExactLeftOf", spec := "fnExactLeftOf", unfollowed := true, recurses := true, apart := false, narrowed := true }
def FnExactLeftOfUptoSaid : Prop := fnExactLeftOfUptoRow.holds Try.pinned (OpenSpec.upto fnExactLeftOfSpec)

/-- 'laws.FnExactListNext', WHERE WHAT IT READS IS OF BULK AT MOST 1048576: true; the input reads as it did. -/
def fnExactListNextUptoRow : OpenClaim := { program := "ytlicjbnagapdeaa", sum := "8e855654f8dd56b22608387f6e209cb9ca46a2dcc7d3edf67be0838faef7afe9", func := "loop.example/g00763/laws.FnExactListNext", spec := "fnExactListNext", unfollowed := true, recurses := true, apart := false, narrowed := true }
def FnExactListNextUptoSaid : Prop := fnExactListNextUptoRow.holds Try.pinned (OpenSpec.upto fnExactListNextSpec)

/-- 'laws.FnExactListRun', WHERE WHAT IT READS IS OF BULK AT MOST 1048576: true; the input reads as it did. -/
def fnExactListRunUptoRow : OpenClaim := { program := "ytlicjbnagapdeaa", sum := "8e855654f8dd56b22608387f6e209cb9ca46a2dcc7d3edf67be0838faef7afe9", func := "loop.example/g00763/laws.FnExactListRun", spec := "fnExactListRun", unfollowed := true, recurses := true, apart := false, narrowed := true }
def FnExactListRunUptoSaid : Prop := fnExactListRunUptoRow.holds Try.pinned (OpenSpec.upto fnExactListRunSpec)

end Rows
end Go.Proofs.Ytlicjbnagapdeaa
