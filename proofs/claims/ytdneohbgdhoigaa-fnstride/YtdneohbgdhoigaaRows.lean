/-
  No cell of these rows narrows 'for every input' (looked for: loops, veiled, ifaces, maps, wideKeys, modest, calm, conditions, laid).
  DERIVED. THE GIVEN ROWS OF THIS SEAT. 3 by the template 'for every input the law returns true; each argument reads behind the call as it read before'; 0 by the template 'total and deterministic' (their statements: YtdneohbgdhoigaaTotals.lean).
  GIVEN WITH THE SEED: the statements are not yours to turn. If you find one false, say at which input.
  Laid BY PROGRAM, IN A SANDBOX (cutbox-rows.mjs): the forced cells as the released guide's own fill.sh prints them over the translation 6dc60622ef26b7ee… (all of the seat's roots in one cut). By AI agents, Wed Nov 11 2026. No macro, syntax, notation, axiom, sorry.
-/
import Derived.Test.YtdneohbgdhoigaaChecked
import GoSem.Claim
import GoSem.ClaimJoined
import GoSem.ClaimMapViews
import Derived.JoinedTies
import Derived.KernelRfl
namespace Go.Proofs.Ytdneohbgdhoigaa
/- THE CELL 'sum', in the pinned program and in every row, IS THE sha256 OF THE DUMP (.gsa) THAT YtdneohbgdhoigaaProg.lean LOADS. Nothing in Lean hashes anything: it is a label: what it is worth is what the hold of that sum in a sandbox is worth. -/
noncomputable def Try.pinned : Pinned := { name := "ytdneohbgdhoigaa", sum := "6dc60622ef26b7eefa8bda46e5dd8ca077d4b6dfb7dcc938dee95ac230413c0f", checked := Try.checked }
namespace Rows
def none {H : Type} : Left H := { results := [], args := [] }

/-- 'laws.FnStride': WHATEVER THE INPUT: true; the input reads as it did. -/
def fnStrideSpec : ChangeSpec := { name := "fnStride", fn := fun _ => fun
  | [d] => { results := [.lit (.bool true)], args := [d] }
  | _ => none }
def fnStrideRow : OpenClaim := { program := "ytdneohbgdhoigaa", sum := "6dc60622ef26b7eefa8bda46e5dd8ca077d4b6dfb7dcc938dee95ac230413c0f", func := "loop.example/g00763/laws.FnStride", spec := "fnStride", unfollowed := true, recurses := true, apart := false }
def FnStrideSaid : Prop := fnStrideRow.holds Try.pinned (OpenSpec.ofChange fnStrideSpec)

/-- ITS FALSE NEIGHBOUR: 'it returns false'. Refute it at one input. -/
def fnStrideWrong : ChangeSpec := { name := "fnStride", fn := fun _ => fun
  | [d] => { results := [.lit (.bool false)], args := [d] }
  | _ => none }
def FnStrideWrongFalsely : Prop := fnStrideRow.holds Try.pinned (OpenSpec.ofChange fnStrideWrong)

/-- 'laws.FnExactStrideNext': WHATEVER THE INPUT: true; the input reads as it did. -/
def fnExactStrideNextSpec : ChangeSpec := { name := "fnExactStrideNext", fn := fun _ => fun
  | [d1, d2] => { results := [.lit (.bool true)], args := [d1, d2] }
  | _ => none }
def fnExactStrideNextRow : OpenClaim := { program := "ytdneohbgdhoigaa", sum := "6dc60622ef26b7eefa8bda46e5dd8ca077d4b6dfb7dcc938dee95ac230413c0f", func := "loop.example/g00763/laws.FnExactStrideNext", spec := "fnExactStrideNext", unfollowed := true, recurses := true, apart := false }
def FnExactStrideNextSaid : Prop := fnExactStrideNextRow.holds Try.pinned (OpenSpec.ofChange fnExactStrideNextSpec)

/-- ITS FALSE NEIGHBOUR: 'it returns false'. Refute it at one input. -/
def fnExactStrideNextWrong : ChangeSpec := { name := "fnExactStrideNext", fn := fun _ => fun
  | [d1, d2] => { results := [.lit (.bool false)], args := [d1, d2] }
  | _ => none }
def FnExactStrideNextWrongFalsely : Prop := fnExactStrideNextRow.holds Try.pinned (OpenSpec.ofChange fnExactStrideNextWrong)

/-- 'laws.FnExactStrideRun': WHATEVER THE INPUT: true; the input reads as it did. -/
def fnExactStrideRunSpec : ChangeSpec := { name := "fnExactStrideRun", fn := fun _ => fun
  | [d1, d2, d3] => { results := [.lit (.bool true)], args := [d1, d2, d3] }
  | _ => none }
def fnExactStrideRunRow : OpenClaim := { program := "ytdneohbgdhoigaa", sum := "6dc60622ef26b7eefa8bda46e5dd8ca077d4b6dfb7dcc938dee95ac230413c0f", func := "loop.example/g00763/laws.FnExactStrideRun", spec := "fnExactStrideRun", unfollowed := true, recurses := true, apart := false }
def FnExactStrideRunSaid : Prop := fnExactStrideRunRow.holds Try.pinned (OpenSpec.ofChange fnExactStrideRunSpec)

/-- ITS FALSE NEIGHBOUR: 'it returns false'. Refute it at one input. -/
def fnExactStrideRunWrong : ChangeSpec := { name := "fnExactStrideRun", fn := fun _ => fun
  | [d1, d2, d3] => { results := [.lit (.bool false)], args := [d1, d2, d3] }
  | _ => none }
def FnExactStrideRunWrongFalsely : Prop := fnExactStrideRunRow.holds Try.pinned (OpenSpec.ofChange fnExactStrideRunWrong)

/- THE SECOND FORM. 'bulk': how many values and letters a reading holds, each counted each time it is reached (what is shared counts as often as it is met; a slice's spare places count too). A statement '..UptoSaid' is the law's where the arguments, and the package variables that the reading takes, are together of bulk at most 1048576: NARROWER than '..Said'. Prove '..Said' where nothing that the law and all that it calls make is longer than what came in: it says more and counts as full. Else prove '..UptoSaid'. A law counts once. -/
mutual
def uptoBulk {H : Type} : DataW H → Nat
  | .lit (.string bytes) => bytes.length + 1
  | .lit _ => 1
  | .nil => 1
  | .ptr d => uptoBulk d + 1
  | .slice elems spare => uptoBulkAll elems + uptoBulkAll spare + 1
  | .agg parts => uptoBulkAll parts + 1
  | .iface _ d => uptoBulk d + 1
  | .map entries => uptoBulkEntries entries + 1
  | .held _ => 1
def uptoBulkAll {H : Type} : List (DataW H) → Nat
  | [] => 0
  | d :: r => uptoBulk d + uptoBulkAll r
def uptoBulkEntries {H : Type} : List (Lit × DataW H) → Nat
  | [] => 0
  | x :: r => uptoBulkEntry x + uptoBulkEntries r
def uptoBulkEntry {H : Type} : Lit × DataW H → Nat
  | (.string bytes, d) => bytes.length + uptoBulk d + 1
  | (_, d) => uptoBulk d + 1
 end
def uptoSmall : (H : Type) → List (DataW H) → Bool := fun _ ds => decide (uptoBulkAll ds ≤ 1048576)
def OpenSpec.upto (s : _root_.Go.ChangeSpec) : _root_.Go.OpenSpec := { _root_.Go.OpenSpec.ofChange s with cond := some uptoSmall }

/-- 'laws.FnStride', WHERE WHAT IT READS IS OF BULK AT MOST 1048576: true; the input reads as it did. -/
def fnStrideUptoRow : OpenClaim := { program := "ytdneohbgdhoigaa", sum := "6dc60622ef26b7eefa8bda46e5dd8ca077d4b6dfb7dcc938dee95ac230413c0f", func := "loop.example/g00763/laws.FnStride", spec := "fnStride", unfollowed := true, recurses := true, apart := false, narrowed := true }
def FnStrideUptoSaid : Prop := fnStrideUptoRow.holds Try.pinned (OpenSpec.upto fnStrideSpec)

/-- 'laws.FnExactStrideNext', WHERE WHAT IT READS IS OF BULK AT MOST 1048576: true; the input reads as it did. -/
def fnExactStrideNextUptoRow : OpenClaim := { program := "ytdneohbgdhoigaa", sum := "6dc60622ef26b7eefa8bda46e5dd8ca077d4b6dfb7dcc938dee95ac230413c0f", func := "loop.example/g00763/laws.FnExactStrideNext", spec := "fnExactStrideNext", unfollowed := true, recurses := true, apart := false, narrowed := true }
def FnExactStrideNextUptoSaid : Prop := fnExactStrideNextUptoRow.holds Try.pinned (OpenSpec.upto fnExactStrideNextSpec)

/-- 'laws.FnExactStrideRun', WHERE WHAT IT READS IS OF BULK AT MOST 1048576: true; the input reads as it did. -/
def fnExactStrideRunUptoRow : OpenClaim := { program := "ytdneohbgdhoigaa", sum := "6dc60622ef26b7eefa8bda46e5dd8ca077d4b6dfb7dcc938dee95ac230413c0f", func := "loop.example/g00763/laws.FnExactStrideRun", spec := "fnExactStrideRun", unfollowed := true, recurses := true, apart := false, narrowed := true }
def FnExactStrideRunUptoSaid : Prop := fnExactStrideRunUptoRow.holds Try.pinned (OpenSpec.upto fnExactStrideRunSpec)

end Rows
end Go.Proofs.Ytdneohbgdhoigaa
