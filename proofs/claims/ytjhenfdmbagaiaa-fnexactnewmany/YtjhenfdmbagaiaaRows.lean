/-
  No cell of these rows narrows 'for every input' (looked for: loops, veiled, ifaces, maps, wideKeys, modest, calm, conditions, laid).
  DERIVED. THE GIVEN ROWS OF THIS SEAT. 5 by the template 'for every input the law returns true; each argument reads behind the call as it read before'; 0 by the template 'total and deterministic' (their statements: YtjhenfdmbagaiaaTotals.lean).
  GIVEN WITH THE SEED: the statements are not yours to turn. If you find one false, say at which input.
  Laid BY PROGRAM, IN A SANDBOX (cutbox-rows.mjs): the forced cells as the released guide's own fill.sh prints them over the translation f62d3eee31363724… (all of the seat's roots in one cut). By AI agents, Wed Nov 11 2026. No macro, syntax, notation, axiom, sorry.
-/
import Derived.Test.YtjhenfdmbagaiaaChecked
import GoSem.Claim
import GoSem.ClaimJoined
import GoSem.ClaimMapViews
import Derived.JoinedTies
import Derived.KernelRfl
namespace Go.Proofs.Ytjhenfdmbagaiaa
/- THE CELL 'sum', in the pinned program and in every row, IS THE sha256 OF THE DUMP (.gsa) THAT YtjhenfdmbagaiaaProg.lean LOADS. Nothing in Lean hashes anything: it is a label: what it is worth is what the hold of that sum in a sandbox is worth. -/
noncomputable def Try.pinned : Pinned := { name := "ytjhenfdmbagaiaa", sum := "f62d3eee31363724850cf4a093274c7f04ed7bba742d0c507b8d110ddba8c081", checked := Try.checked }
namespace Rows
def none {H : Type} : Left H := { results := [], args := [] }

/-- 'laws.FnTop': WHATEVER THE INPUT: true; the input reads as it did. -/
def fnTopSpec : ChangeSpec := { name := "fnTop", fn := fun _ => fun
  | [d] => { results := [.lit (.bool true)], args := [d] }
  | _ => none }
def fnTopRow : OpenClaim := { program := "ytjhenfdmbagaiaa", sum := "f62d3eee31363724850cf4a093274c7f04ed7bba742d0c507b8d110ddba8c081", func := "loop.example/g00763/laws.FnTop", spec := "fnTop", unfollowed := true, recurses := true, named := ["math/bits.divideError", "math/bits.overflowError"], apart := false }
def FnTopSaid : Prop := fnTopRow.holds Try.pinned (OpenSpec.ofChange fnTopSpec)

/-- ITS FALSE NEIGHBOUR: 'it returns false'. Refute it at one input. -/
def fnTopWrong : ChangeSpec := { name := "fnTop", fn := fun _ => fun
  | [d] => { results := [.lit (.bool false)], args := [d] }
  | _ => none }
def FnTopWrongFalsely : Prop := fnTopRow.holds Try.pinned (OpenSpec.ofChange fnTopWrong)

/-- 'laws.FnBusy': WHATEVER THE INPUT: true; the input reads as it did. -/
def fnBusySpec : ChangeSpec := { name := "fnBusy", fn := fun _ => fun
  | [d] => { results := [.lit (.bool true)], args := [d] }
  | _ => none }
def fnBusyRow : OpenClaim := { program := "ytjhenfdmbagaiaa", sum := "f62d3eee31363724850cf4a093274c7f04ed7bba742d0c507b8d110ddba8c081", func := "loop.example/g00763/laws.FnBusy", spec := "fnBusy", unfollowed := true, recurses := true, named := ["math/bits.divideError", "math/bits.overflowError"], apart := false }
def FnBusySaid : Prop := fnBusyRow.holds Try.pinned (OpenSpec.ofChange fnBusySpec)

/-- ITS FALSE NEIGHBOUR: 'it returns false'. Refute it at one input. -/
def fnBusyWrong : ChangeSpec := { name := "fnBusy", fn := fun _ => fun
  | [d] => { results := [.lit (.bool false)], args := [d] }
  | _ => none }
def FnBusyWrongFalsely : Prop := fnBusyRow.holds Try.pinned (OpenSpec.ofChange fnBusyWrong)

/-- 'laws.FnExactManyOk': WHATEVER THE INPUT: true; the input reads as it did. -/
def fnExactManyOkSpec : ChangeSpec := { name := "fnExactManyOk", fn := fun _ => fun
  | [d] => { results := [.lit (.bool true)], args := [d] }
  | _ => none }
def fnExactManyOkRow : OpenClaim := { program := "ytjhenfdmbagaiaa", sum := "f62d3eee31363724850cf4a093274c7f04ed7bba742d0c507b8d110ddba8c081", func := "loop.example/g00763/laws.FnExactManyOk", spec := "fnExactManyOk", apart := false }
def FnExactManyOkSaid : Prop := fnExactManyOkRow.holds Try.pinned (OpenSpec.ofChange fnExactManyOkSpec)

/-- ITS FALSE NEIGHBOUR: 'it returns false'. Refute it at one input. -/
def fnExactManyOkWrong : ChangeSpec := { name := "fnExactManyOk", fn := fun _ => fun
  | [d] => { results := [.lit (.bool false)], args := [d] }
  | _ => none }
def FnExactManyOkWrongFalsely : Prop := fnExactManyOkRow.holds Try.pinned (OpenSpec.ofChange fnExactManyOkWrong)

/-- 'laws.FnExactNewMany': WHATEVER THE INPUT: true; the input reads as it did. -/
def fnExactNewManySpec : ChangeSpec := { name := "fnExactNewMany", fn := fun _ => fun
  | [d1, d2] => { results := [.lit (.bool true)], args := [d1, d2] }
  | _ => none }
def fnExactNewManyRow : OpenClaim := { program := "ytjhenfdmbagaiaa", sum := "f62d3eee31363724850cf4a093274c7f04ed7bba742d0c507b8d110ddba8c081", func := "loop.example/g00763/laws.FnExactNewMany", spec := "fnExactNewMany", apart := false }
def FnExactNewManySaid : Prop := fnExactNewManyRow.holds Try.pinned (OpenSpec.ofChange fnExactNewManySpec)

/-- ITS FALSE NEIGHBOUR: 'it returns false'. Refute it at one input. -/
def fnExactNewManyWrong : ChangeSpec := { name := "fnExactNewMany", fn := fun _ => fun
  | [d1, d2] => { results := [.lit (.bool false)], args := [d1, d2] }
  | _ => none }
def FnExactNewManyWrongFalsely : Prop := fnExactNewManyRow.holds Try.pinned (OpenSpec.ofChange fnExactNewManyWrong)

/-- 'laws.FnExactManyLag': WHATEVER THE INPUT: true; the input reads as it did. -/
def fnExactManyLagSpec : ChangeSpec := { name := "fnExactManyLag", fn := fun _ => fun
  | [d1, d2] => { results := [.lit (.bool true)], args := [d1, d2] }
  | _ => none }
def fnExactManyLagRow : OpenClaim := { program := "ytjhenfdmbagaiaa", sum := "f62d3eee31363724850cf4a093274c7f04ed7bba742d0c507b8d110ddba8c081", func := "loop.example/g00763/laws.FnExactManyLag", spec := "fnExactManyLag", apart := false }
def FnExactManyLagSaid : Prop := fnExactManyLagRow.holds Try.pinned (OpenSpec.ofChange fnExactManyLagSpec)

/-- ITS FALSE NEIGHBOUR: 'it returns false'. Refute it at one input. -/
def fnExactManyLagWrong : ChangeSpec := { name := "fnExactManyLag", fn := fun _ => fun
  | [d1, d2] => { results := [.lit (.bool false)], args := [d1, d2] }
  | _ => none }
def FnExactManyLagWrongFalsely : Prop := fnExactManyLagRow.holds Try.pinned (OpenSpec.ofChange fnExactManyLagWrong)

/- THE SECOND FORM. 'bulk': how many values and letters a reading holds, each counted each time it is reached (what is shared counts as often as it is met; a slice's spare places count too). A statement '..UptoSaid' is the law's where the arguments, and the package variables that the reading takes, are together of bulk at most 1048576: NARROWER than '..Said'. Prove '..Said' where nothing that the law and all that it calls make is longer than what came in: it says more and counts as full. Else prove '..UptoSaid'. A law counts once. -/
mutual
def uptoBulk {H : Type} : DataW H → Nat
  | .lit (.string bytes) => bytes.length + 1
  | .lit _ => 1
  | .nil => 1
  | .ptr d => uptoBulk d + 1
  | .slice elems spare => uptoBulkAll elems + uptoBulkAll spare + 1
  | .agg parts => uptoBulkAll parts + 1
  | .iface _ d => uptoBulk d + 1
  | .map entries => uptoBulkEntries entries + 1
  | .held _ => 1
def uptoBulkAll {H : Type} : List (DataW H) → Nat
  | [] => 0
  | d :: r => uptoBulk d + uptoBulkAll r
def uptoBulkEntries {H : Type} : List (Lit × DataW H) → Nat
  | [] => 0
  | x :: r => uptoBulkEntry x + uptoBulkEntries r
def uptoBulkEntry {H : Type} : Lit × DataW H → Nat
  | (.string bytes, d) => bytes.length + uptoBulk d + 1
  | (_, d) => uptoBulk d + 1
 end
def uptoSmall : (H : Type) → List (DataW H) → Bool := fun _ ds => decide (uptoBulkAll ds ≤ 1048576)
def OpenSpec.upto (s : _root_.Go.ChangeSpec) : _root_.Go.OpenSpec := { _root_.Go.OpenSpec.ofChange s with cond := some uptoSmall }

/-- 'laws.FnTop', WHERE WHAT IT READS IS OF BULK AT MOST 1048576: true; the input reads as it did. -/
def fnTopUptoRow : OpenClaim := { program := "ytjhenfdmbagaiaa", sum := "f62d3eee31363724850cf4a093274c7f04ed7bba742d0c507b8d110ddba8c081", func := "loop.example/g00763/laws.FnTop", spec := "fnTop", unfollowed := true, recurses := true, named := ["math/bits.divideError", "math/bits.overflowError"], apart := false, narrowed := true }
def FnTopUptoSaid : Prop := fnTopUptoRow.holds Try.pinned (OpenSpec.upto fnTopSpec)

/-- 'laws.FnBusy', WHERE WHAT IT READS IS OF BULK AT MOST 1048576: true; the input reads as it did. -/
def fnBusyUptoRow : OpenClaim := { program := "ytjhenfdmbagaiaa", sum := "f62d3eee31363724850cf4a093274c7f04ed7bba742d0c507b8d110ddba8c081", func := "loop.example/g00763/laws.FnBusy", spec := "fnBusy", unfollowed := true, recurses := true, named := ["math/bits.divideError", "math/bits.overflowError"], apart := false, narrowed := true }
def FnBusyUptoSaid : Prop := fnBusyUptoRow.holds Try.pinned (OpenSpec.upto fnBusySpec)

/-- 'laws.FnExactManyOk', WHERE WHAT IT READS IS OF BULK AT MOST 1048576: true; the input reads as it did. -/
def fnExactManyOkUptoRow : OpenClaim := { program := "ytjhenfdmbagaiaa", sum := "f62d3eee31363724850cf4a093274c7f04ed7bba742d0c507b8d110ddba8c081", func := "loop.example/g00763/laws.FnExactManyOk", spec := "fnExactManyOk", apart := false, narrowed := true }
def FnExactManyOkUptoSaid : Prop := fnExactManyOkUptoRow.holds Try.pinned (OpenSpec.upto fnExactManyOkSpec)

/-- 'laws.FnExactNewMany', WHERE WHAT IT READS IS OF BULK AT MOST 1048576: true; the input reads as it did. -/
def fnExactNewManyUptoRow : OpenClaim := { program := "ytjhenfdmbagaiaa", sum := "f62d3eee31363724850cf4a093274c7f04ed7bba742d0c507b8d110ddba8c081", func := "loop.example/g00763/laws.FnExactNewMany", spec := "fnExactNewMany", apart := false, narrowed := true }
def FnExactNewManyUptoSaid : Prop := fnExactNewManyUptoRow.holds Try.pinned (OpenSpec.upto fnExactNewManySpec)

/-- 'laws.FnExactManyLag', WHERE WHAT IT READS IS OF BULK AT MOST 1048576: true; the input reads as it did. -/
def fnExactManyLagUptoRow : OpenClaim := { program := "ytjhenfdmbagaiaa", sum := "f62d3eee31363724850cf4a093274c7f04ed7bba742d0c507b8d110ddba8c081", func := "loop.example/g00763/laws.FnExactManyLag", spec := "fnExactManyLag", apart := false, narrowed := true }
def FnExactManyLagUptoSaid : Prop := fnExactManyLagUptoRow.holds Try.pinned (OpenSpec.upto fnExactManyLagSpec)

end Rows
end Go.Proofs.Ytjhenfdmbagaiaa
