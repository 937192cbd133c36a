/-
  No cell of these rows narrows 'for every input' (looked for: loops, veiled, ifaces, maps, wideKeys, modest, calm, conditions, laid).
  DERIVED. THE GIVEN ROWS OF THIS SEAT. 3 by the template 'for every input the law returns true; each argument reads behind the call as it read before'; 0 by the template 'total and deterministic' (their statements: YtjhenfdmbagaiaaGreatTotals.lean).
  GIVEN WITH THE SEED: the statements are not yours to turn. If you find one false, say at which input.
  Laid BY PROGRAM, IN A SANDBOX (cutbox-rows.mjs): the forced cells as the released guide's own fill.sh prints them over the translation a71e770c26bdf173… (all of the seat's roots in one cut). By AI agents, Wed Nov 11 2026. No macro, syntax, notation, axiom, sorry.
-/
import Derived.Test.YtjhenfdmbagaiaaGreatChecked
import GoSem.Claim
import GoSem.ClaimJoined
import GoSem.ClaimMapViews
import Derived.JoinedTies
import Derived.KernelRfl
namespace Go.Proofs.YtjhenfdmbagaiaaGreat
/- THE CELL 'sum', in the pinned program and in every row, IS THE sha256 OF THE DUMP (.gsa) THAT YtjhenfdmbagaiaaGreatProg.lean LOADS. Nothing in Lean hashes anything: it is a label: what it is worth is what the hold of that sum in a sandbox is worth. -/
noncomputable def Tryz.pinned : Pinned := { name := "ytjhenfdmbagaiaagreat", sum := "a71e770c26bdf173f8b0b4cad34973c45e72f7ed84e0a85d6ff3a4a4d5b7e89e", checked := Tryz.checked }
namespace Rows
def none {H : Type} : Left H := { results := [], args := [] }

/-- 'laws.FnMany': WHATEVER THE INPUT: true; the input reads as it did. -/
def fnManySpec : ChangeSpec := { name := "fnMany", fn := fun _ => fun
  | [d] => { results := [.lit (.bool true)], args := [d] }
  | _ => none }
def fnManyRow : OpenClaim := { program := "ytjhenfdmbagaiaagreat", sum := "a71e770c26bdf173f8b0b4cad34973c45e72f7ed84e0a85d6ff3a4a4d5b7e89e", func := "loop.example/g00763/laws.FnMany", spec := "fnMany", unfollowed := true, recurses := true, named := ["math/bits.divideError", "math/bits.overflowError"], apart := false }
def FnManySaid : Prop := fnManyRow.holds Tryz.pinned (OpenSpec.ofChange fnManySpec)

/-- ITS FALSE NEIGHBOUR: 'it returns false'. Refute it at one input. -/
def fnManyWrong : ChangeSpec := { name := "fnMany", fn := fun _ => fun
  | [d] => { results := [.lit (.bool false)], args := [d] }
  | _ => none }
def FnManyWrongFalsely : Prop := fnManyRow.holds Tryz.pinned (OpenSpec.ofChange fnManyWrong)

/-- 'laws.FnExactManyNext': WHATEVER THE INPUT: true; the input reads as it did. -/
def fnExactManyNextSpec : ChangeSpec := { name := "fnExactManyNext", fn := fun _ => fun
  | [d] => { results := [.lit (.bool true)], args := [d] }
  | _ => none }
def fnExactManyNextRow : OpenClaim := { program := "ytjhenfdmbagaiaagreat", sum := "a71e770c26bdf173f8b0b4cad34973c45e72f7ed84e0a85d6ff3a4a4d5b7e89e", func := "loop.example/g00763/laws.FnExactManyNext", spec := "fnExactManyNext", unfollowed := true, recurses := true, named := ["math/bits.divideError", "math/bits.overflowError"], apart := false }
def FnExactManyNextSaid : Prop := fnExactManyNextRow.holds Tryz.pinned (OpenSpec.ofChange fnExactManyNextSpec)

/-- ITS FALSE NEIGHBOUR: 'it returns false'. Refute it at one input. -/
def fnExactManyNextWrong : ChangeSpec := { name := "fnExactManyNext", fn := fun _ => fun
  | [d] => { results := [.lit (.bool false)], args := [d] }
  | _ => none }
def FnExactManyNextWrongFalsely : Prop := fnExactManyNextRow.holds Tryz.pinned (OpenSpec.ofChange fnExactManyNextWrong)

/-- 'laws.FnExactManyRun': WHATEVER THE INPUT: true; the input reads as it did. -/
def fnExactManyRunSpec : ChangeSpec := { name := "fnExactManyRun", fn := fun _ => fun
  | [d1, d2] => { results := [.lit (.bool true)], args := [d1, d2] }
  | _ => none }
def fnExactManyRunRow : OpenClaim := { program := "ytjhenfdmbagaiaagreat", sum := "a71e770c26bdf173f8b0b4cad34973c45e72f7ed84e0a85d6ff3a4a4d5b7e89e", func := "loop.example/g00763/laws.FnExactManyRun", spec := "fnExactManyRun", unfollowed := true, recurses := true, named := ["math/bits.divideError", "math/bits.overflowError"], apart := false }
def FnExactManyRunSaid : Prop := fnExactManyRunRow.holds Tryz.pinned (OpenSpec.ofChange fnExactManyRunSpec)

/-- ITS FALSE NEIGHBOUR: 'it returns false'. Refute it at one input. -/
def fnExactManyRunWrong : ChangeSpec := { name := "fnExactManyRun", fn := fun _ => fun
  | [d1, d2] => { results := [.lit (.bool false)], args := [d1, d2] }
  | _ => none }
def FnExactManyRunWrongFalsely : Prop := fnExactManyRunRow.holds Tryz.pinned (OpenSpec.ofChange fnExactManyRunWrong)

/- THE SECOND FORM. 'bulk': how many values and letters a reading holds, each counted each time it is reached (what is shared counts as often as it is met; a slice's spare places count too). A statement '..UptoSaid' is the law's where the arguments, and the package variables that the reading takes, are together of bulk at most 1048576: NARROWER than '..Said'. Prove '..Said' where nothing that the law and all that it calls make is longer than what came in: it says more and counts as full. Else prove '..UptoSaid'. A law counts once. -/
mutual
def uptoBulk {H : Type} : DataW H → Nat
  | .lit (.string bytes) => bytes.length + 1
  | .lit _ => 1
  | .nil => 1
  | .ptr d => uptoBulk d + 1
  | .slice elems spare => uptoBulkAll elems + uptoBulkAll spare + 1
  | .agg parts => uptoBulkAll parts + 1
  | .iface _ d => uptoBulk d + 1
  | .map entries => uptoBulkEntries entries + 1
  | .held _ => 1
def uptoBulkAll {H : Type} : List (DataW H) → Nat
  | [] => 0
  | d :: r => uptoBulk d + uptoBulkAll r
def uptoBulkEntries {H : Type} : List (Lit × DataW H) → Nat
  | [] => 0
  | x :: r => uptoBulkEntry x + uptoBulkEntries r
def uptoBulkEntry {H : Type} : Lit × DataW H → Nat
  | (.string bytes, d) => bytes.length + uptoBulk d + 1
  | (_, d) => uptoBulk d + 1
 end
def uptoSmall : (H : Type) → List (DataW H) → Bool := fun _ ds => decide (uptoBulkAll ds ≤ 1048576)
def OpenSpec.upto (s : _root_.Go.ChangeSpec) : _root_.Go.OpenSpec := { _root_.Go.OpenSpec.ofChange s with cond := some uptoSmall }

/-- 'laws.FnMany', WHERE WHAT IT READS IS OF BULK AT MOST 1048576: true; the input reads as it did. -/
def fnManyUptoRow : OpenClaim := { program := "ytjhenfdmbagaiaagreat", sum := "a71e770c26bdf173f8b0b4cad34973c45e72f7ed84e0a85d6ff3a4a4d5b7e89e", func := "loop.example/g00763/laws.FnMany", spec := "fnMany", unfollowed := true, recurses := true, named := ["math/bits.divideError", "math/bits.overflowError"], apart := false, narrowed := true }
def FnManyUptoSaid : Prop := fnManyUptoRow.holds Tryz.pinned (OpenSpec.upto fnManySpec)

/-- 'laws.FnExactManyNext', WHERE WHAT IT READS IS OF BULK AT MOST 1048576: true; the input reads as it did. -/
def fnExactManyNextUptoRow : OpenClaim := { program := "ytjhenfdmbagaiaagreat", sum := "a71e770c26bdf173f8b0b4cad34973c45e72f7ed84e0a85d6ff3a4a4d5b7e89e", func := "loop.example/g00763/laws.FnExactManyNext", spec := "fnExactManyNext", unfollowed := true, recurses := true, named := ["math/bits.divideError", "math/bits.overflowError"], apart := false, narrowed := true }
def FnExactManyNextUptoSaid : Prop := fnExactManyNextUptoRow.holds Tryz.pinned (OpenSpec.upto fnExactManyNextSpec)

/-- 'laws.FnExactManyRun', WHERE WHAT IT READS IS OF BULK AT MOST 1048576: true; the input reads as it did. -/
def fnExactManyRunUptoRow : OpenClaim := { program := "ytjhenfdmbagaiaagreat", sum := "a71e770c26bdf173f8b0b4cad34973c45e72f7ed84e0a85d6ff3a4a4d5b7e89e", func := "loop.example/g00763/laws.FnExactManyRun", spec := "fnExactManyRun", unfollowed := true, recurses := true, named := ["math/bits.divideError", "math/bits.overflowError"], apart := false, narrowed := true }
def FnExactManyRunUptoSaid : Prop := fnExactManyRunUptoRow.holds Tryz.pinned (OpenSpec.upto fnExactManyRunSpec)

end Rows
end Go.Proofs.YtjhenfdmbagaiaaGreat
