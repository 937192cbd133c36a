/-
  No cell of these rows narrows 'for every input' (looked for: loops, veiled, ifaces, maps, wideKeys, modest, calm, conditions, laid).
  DERIVED. THE GIVEN ROWS OF THIS SEAT. 4 by the template 'for every input the law returns true; each argument reads behind the call as it read before'; 0 by the template 'total and deterministic' (their statements: YtlmlgidfgjejpaaTotals.lean).
  GIVEN WITH THE SEED: the statements are not yours to turn. If you find one false, say at which input.
  Laid BY PROGRAM, IN A SANDBOX (cutbox-rows.mjs): the forced cells as the released guide's own fill.sh prints them over the translation 00067f4ee5e1edf7… (all of the seat's roots in one cut). By AI agents, Wed Nov 11 2026. No macro, syntax, notation, axiom, sorry.
-/
import Derived.Test.YtlmlgidfgjejpaaChecked
import GoSem.Claim
import GoSem.ClaimJoined
import GoSem.ClaimMapViews
import Derived.JoinedTies
import Derived.KernelRfl
namespace Go.Proofs.Ytlmlgidfgjejpaa
/- THE CELL 'sum', in the pinned program and in every row, IS THE sha256 OF THE DUMP (.gsa) THAT YtlmlgidfgjejpaaProg.lean LOADS. Nothing in Lean hashes anything: it is a label: what it is worth is what the hold of that sum in a sandbox is worth. -/
noncomputable def Try.pinned : Pinned := { name := "ytlmlgidfgjejpaa", sum := "00067f4ee5e1edf732fe0dfff49e45756ecaf5a5bc5f5f21ff8a8998511044d8", checked := Try.checked }
namespace Rows
def none {H : Type} : Left H := { results := [], args := [] }

/-- 'laws.FnSingle': WHATEVER THE INPUT: true; the input reads as it did. -/
def fnSingleSpec : ChangeSpec := { name := "fnSingle", fn := fun _ => fun
  | [d] => { results := [.lit (.bool true)], args := [d] }
  | _ => none }
def fnSingleRow : OpenClaim := { program := "ytlmlgidfgjejpaa", sum := "00067f4ee5e1edf732fe0dfff49e45756ecaf5a5bc5f5f21ff8a8998511044d8", func := "loop.example/g00763/laws.FnSingle", spec := "fnSingle", unfollowed := true, recurses := true, named := ["math/bits.divideError", "math/bits.overflowError"], apart := false }
def FnSingleSaid : Prop := fnSingleRow.holds Try.pinned (OpenSpec.ofChange fnSingleSpec)

/-- ITS FALSE NEIGHBOUR: 'it returns false'. Refute it at one input. -/
def fnSingleWrong : ChangeSpec := { name := "fnSingle", fn := fun _ => fun
  | [d] => { results := [.lit (.bool false)], args := [d] }
  | _ => none }
def FnSingleWrongFalsely : Prop := fnSingleRow.holds Try.pinned (OpenSpec.ofChange fnSingleWrong)

/-- 'laws.FnSingleRun': WHATEVER THE INPUT: true; the input reads as it did. -/
def fnSingleRunSpec : ChangeSpec := { name := "fnSingleRun", fn := fun _ => fun
  | [d] => { results := [.lit (.bool true)], args := [d] }
  | _ => none }
def fnSingleRunRow : OpenClaim := { program := "ytlmlgidfgjejpaa", sum := "00067f4ee5e1edf732fe0dfff49e45756ecaf5a5bc5f5f21ff8a8998511044d8", func := "loop.example/g00763/laws.FnSingleRun", spec := "fnSingleRun", unfollowed := true, recurses := true, named := ["math/bits.divideError", "math/bits.overflowError"], apart := false }
def FnSingleRunSaid : Prop := fnSingleRunRow.holds Try.pinned (OpenSpec.ofChange fnSingleRunSpec)

/-- ITS FALSE NEIGHBOUR: 'it returns false'. Refute it at one input. -/
def fnSingleRunWrong : ChangeSpec := { name := "fnSingleRun", fn := fun _ => fun
  | [d] => { results := [.lit (.bool false)], args := [d] }
  | _ => none }
def FnSingleRunWrongFalsely : Prop := fnSingleRunRow.holds Try.pinned (OpenSpec.ofChange fnSingleRunWrong)

/-- 'laws.FnExactSingleNext': WHATEVER THE INPUT: true; the input reads as it did. -/
def fnExactSingleNextSpec : ChangeSpec := { name := "fnExactSingleNext", fn := fun _ => fun
  | [d1, d2] => { results := [.lit (.bool true)], args := [d1, d2] }
  | _ => none }
def fnExactSingleNextRow : OpenClaim := { program := "ytlmlgidfgjejpaa", sum := "00067f4ee5e1edf732fe0dfff49e45756ecaf5a5bc5f5f21ff8a8998511044d8", func := "loop.example/g00763/laws.FnExactSingleNext", spec := "fnExactSingleNext", unfollowed := true, recurses := true, named := ["math/bits.divideError", "math/bits.overflowError"], apart := false }
def FnExactSingleNextSaid : Prop := fnExactSingleNextRow.holds Try.pinned (OpenSpec.ofChange fnExactSingleNextSpec)

/-- ITS FALSE NEIGHBOUR: 'it returns false'. Refute it at one input. -/
def fnExactSingleNextWrong : ChangeSpec := { name := "fnExactSingleNext", fn := fun _ => fun
  | [d1, d2] => { results := [.lit (.bool false)], args := [d1, d2] }
  | _ => none }
def FnExactSingleNextWrongFalsely : Prop := fnExactSingleNextRow.holds Try.pinned (OpenSpec.ofChange fnExactSingleNextWrong)

/-- 'laws.FnExactSingleRun': WHATEVER THE INPUT: true; the input reads as it did. -/
def fnExactSingleRunSpec : ChangeSpec := { name := "fnExactSingleRun", fn := fun _ => fun
  | [d1, d2, d3] => { results := [.lit (.bool true)], args := [d1, d2, d3] }
  | _ => none }
def fnExactSingleRunRow : OpenClaim := { program := "ytlmlgidfgjejpaa", sum := "00067f4ee5e1edf732fe0dfff49e45756ecaf5a5bc5f5f21ff8a8998511044d8", func := "loop.example/g00763/laws.FnExactSingleRun", spec := "fnExactSingleRun", unfollowed := true, recurses := true, named := ["math/bits.divideError", "math/bits.overflowError"], apart := false }
def FnExactSingleRunSaid : Prop := fnExactSingleRunRow.holds Try.pinned (OpenSpec.ofChange fnExactSingleRunSpec)

/-- ITS FALSE NEIGHBOUR: 'it returns false'. Refute it at one input. -/
def fnExactSingleRunWrong : ChangeSpec := { name := "fnExactSingleRun", fn := fun _ => fun
  | [d1, d2, d3] => { results := [.lit (.bool false)], args := [d1, d2, d3] }
  | _ => none }
def FnExactSingleRunWrongFalsely : Prop := fnExactSingleRunRow.holds Try.pinned (OpenSpec.ofChange fnExactSingleRunWrong)

/- THE SECOND FORM. 'bulk': how many values and letters a reading holds, each counted each time it is reached (what is shared counts as often as it is met; a slice's spare places count too). A statement '..UptoSaid' is the law's where the arguments, and the package variables that the reading takes, are together of bulk at most 1048576: NARROWER than '..Said'. Prove '..Said' where nothing that the law and all that it calls make is longer than what came in: it says more and counts as full. Else prove '..UptoSaid'. A law counts once. -/
mutual
def uptoBulk {H : Type} : DataW H → Nat
  | .lit (.string bytes) => bytes.length + 1
  | .lit _ => 1
  | .nil => 1
  | .ptr d => uptoBulk d + 1
  | .slice elems spare => uptoBulkAll elems + uptoBulkAll spare + 1
  | .agg parts => uptoBulkAll parts + 1
  | .iface _ d => uptoBulk d + 1
  | .map entries => uptoBulkEntries entries + 1
  | .held _ => 1
def uptoBulkAll {H : Type} : List (DataW H) → Nat
  | [] => 0
  | d :: r => uptoBulk d + uptoBulkAll r
def uptoBulkEntries {H : Type} : List (Lit × DataW H) → Nat
  | [] => 0
  | x :: r => uptoBulkEntry x + uptoBulkEntries r
def uptoBulkEntry {H : Type} : Lit × DataW H → Nat
  | (.string bytes, d) => bytes.length + uptoBulk d + 1
  | (_, d) => uptoBulk d + 1
 end
def uptoSmall : (H : Type) → List (DataW H) → Bool := fun _ ds => decide (uptoBulkAll ds ≤ 1048576)
def OpenSpec.upto (s : _root_.Go.ChangeSpec) : _root_.Go.OpenSpec := { _root_.Go.OpenSpec.ofChange s with cond := some uptoSmall }

/-- 'laws.FnSingle', WHERE WHAT IT READS IS OF BULK AT MOST 1048576: true; the input reads as it did. -/
def fnSingleUptoRow : OpenClaim := { program := "ytlmlgidfgjejpaa", sum := "00067f4ee5e1edf732fe0dfff49e45756ecaf5a5bc5f5f21ff8a8998511044d8", func := "loop.example/g00763/laws.FnSingle", spec := "fnSingle", unfollowed := true, recurses := true, named := ["math/bits.divideError", "math/bits.overflowError"], apart := false, narrowed := true }
def FnSingleUptoSaid : Prop := fnSingleUptoRow.holds Try.pinned (OpenSpec.upto fnSingleSpec)

/-- 'laws.FnSingleRun', WHERE WHAT IT READS IS OF BULK AT MOST 1048576: true; the input reads as it did. -/
def fnSingleRunUptoRow : OpenClaim := { program := "ytlmlgidfgjejpaa", sum := "00067f4ee5e1edf732fe0dfff49e45756ecaf5a5bc5f5f21ff8a8998511044d8", func := "loop.example/g00763/laws.FnSingleRun", spec := "fnSingleRun", unfollowed := true, recurses := true, named := ["math/bits.divideError", "math/bits.overflowError"], apart := false, narrowed := true }
def FnSingleRunUptoSaid : Prop := fnSingleRunUptoRow.holds Try.pinned (OpenSpec.upto fnSingleRunSpec)

/-- 'laws.FnExactSingleNext', WHERE WHAT IT READS IS OF BULK AT MOST 1048576: true; the input reads as it did. -/
def fnExactSingleNextUptoRow : OpenClaim := { program := "ytlmlgidfgjejpaa", sum := "00067f4ee5e1edf732fe0dfff49e45756ecaf5a5bc5f5f21ff8a8998511044d8", func := "loop.example/g00763/laws.FnExactSingleNext", spec := "fnExactSingleNext", unfollowed := true, recurses := true, named := ["math/bits.divideError", "math/bits.overflowError"], apart := false, narrowed := true }
def FnExactSingleNextUptoSaid : Prop := fnExactSingleNextUptoRow.holds Try.pinned (OpenSpec.upto fnExactSingleNextSpec)

/-- 'laws.FnExactSingleRun', WHERE WHAT IT READS IS OF BULK AT MOST 1048576: true; the input reads as it did. -/
def fnExactSingleRunUptoRow : OpenClaim := { program := "ytlmlgidfgjejpaa", sum := "00067f4ee5e1edf732fe0dfff49e45756ecaf5a5bc5f5f21ff8a8998511044d8", func := "loop.example/g00763/laws.FnExactSingleRun", spec := "fnExactSingleRun", unfollowed := true, recurses := true, named := ["math/bits.divideError", "math/bits.overflowError"], apart := false, narrowed := true }
def FnExactSingleRunUptoSaid : Prop := fnExactSingleRunUptoRow.holds Try.pinned (OpenSpec.upto fnExactSingleRunSpec)

end Rows
end Go.Proofs.Ytlmlgidfgjejpaa
