/-
  No cell of these rows narrows 'for every input' (looked for: loops, veiled, ifaces, maps, wideKeys, modest, calm, conditions, laid).
  DERIVED. THE GIVEN ROWS OF THIS SEAT. 4 by the template 'for every input the law returns true; each argument reads behind the call as it read before'; 0 by the template 'total and deterministic' (their statements: YtidmpcnjhpnlcaaTotals.lean).
  GIVEN WITH THE SEED: the statements are not yours to turn. If you find one false, say at which input.
  Laid BY PROGRAM, IN A SANDBOX (cutbox-rows.mjs): the forced cells as the released guide's own fill.sh prints them over the translation a300b58231b2fd09… (all of the seat's roots in one cut). By AI agents, Wed Nov 11 2026. No macro, syntax, notation, axiom, sorry.
-/
import Derived.Test.YtidmpcnjhpnlcaaChecked
import GoSem.Claim
import GoSem.ClaimJoined
import GoSem.ClaimMapViews
import Derived.JoinedTies
import Derived.KernelRfl
namespace Go.Proofs.Ytidmpcnjhpnlcaa
/- THE CELL 'sum', in the pinned program and in every row, IS THE sha256 OF THE DUMP (.gsa) THAT YtidmpcnjhpnlcaaProg.lean LOADS. Nothing in Lean hashes anything: it is a label: what it is worth is what the hold of that sum in a sandbox is worth. -/
noncomputable def Try.pinned : Pinned := { name := "ytidmpcnjhpnlcaa", sum := "a300b58231b2fd09005518f8d3be317799fc6b7de652879122b7f59eeea73800", checked := Try.checked }
namespace Rows
def none {H : Type} : Left H := { results := [], args := [] }

/-- 'laws.FnAdjusted': WHATEVER THE INPUT: true; the input reads as it did. -/
def fnAdjustedSpec : ChangeSpec := { name := "fnAdjusted", fn := fun _ => fun
  | [d] => { results := [.lit (.bool true)], args := [d] }
  | _ => none }
def fnAdjustedRow : OpenClaim := { program := "ytidmpcnjhpnlcaa", sum := "a300b58231b2fd09005518f8d3be317799fc6b7de652879122b7f59eeea73800", func := "loop.example/g00763/laws.FnAdjusted", spec := "fnAdjusted", unfollowed := true, recurses := true, apart := false }
def FnAdjustedSaid : Prop := fnAdjustedRow.holds Try.pinned (OpenSpec.ofChange fnAdjustedSpec)

/-- ITS FALSE NEIGHBOUR: 'it returns false'. Refute it at one input. -/
def fnAdjustedWrong : ChangeSpec := { name := "fnAdjusted", fn := fun _ => fun
  | [d] => { results := [.lit (.bool false)], args := [d] }
  | _ => none }
def FnAdjustedWrongFalsely : Prop := fnAdjustedRow.holds Try.pinned (OpenSpec.ofChange fnAdjustedWrong)

/-- 'laws.FnExactAdjusted': WHATEVER THE INPUT: true; the input reads as it did. -/
def fnExactAdjustedSpec : ChangeSpec := { name := "fnExactAdjusted", fn := fun _ => fun
  | [d1, d2] => { results := [.lit (.bool true)], args := [d1, d2] }
  | _ => none }
def fnExactAdjustedRow : OpenClaim := { program := "ytidmpcnjhpnlcaa", sum := "a300b58231b2fd09005518f8d3be317799fc6b7de652879122b7f59eeea73800", func := "loop.example/g00763/laws.FnExactAdjusted", spec := "fnExactAdjusted", unfollowed := true, recurses := true, apart := false }
def FnExactAdjustedSaid : Prop := fnExactAdjustedRow.holds Try.pinned (OpenSpec.ofChange fnExactAdjustedSpec)

/-- ITS FALSE NEIGHBOUR: 'it returns false'. Refute it at one input. -/
def fnExactAdjustedWrong : ChangeSpec := { name := "fnExactAdjusted", fn := fun _ => fun
  | [d1, d2] => { results := [.lit (.bool false)], args := [d1, d2] }
  | _ => none }
def FnExactAdjustedWrongFalsely : Prop := fnExactAdjustedRow.holds Try.pinned (OpenSpec.ofChange fnExactAdjustedWrong)

/-- 'laws.FnExactWholeOf': WHATEVER THE INPUT: true; the input reads as it did. -/
def fnExactWholeOfSpec : ChangeSpec := { name := "fnExactWholeOf", fn := fun _ => fun
  | [d] => { results := [.lit (.bool true)], args := [d] }
  | _ => none }
def fnExactWholeOfRow : OpenClaim := { program := "ytidmpcnjhpnlcaa", sum := "a300b58231b2fd09005518f8d3be317799fc6b7de652879122b7f59eeea73800", func := "loop.example/g00763/laws.FnExactWholeOf", spec := "fnExactWholeOf", apart := false }
def FnExactWholeOfSaid : Prop := fnExactWholeOfRow.holds Try.pinned (OpenSpec.ofChange fnExactWholeOfSpec)

/-- ITS FALSE NEIGHBOUR: 'it returns false'. Refute it at one input. -/
def fnExactWholeOfWrong : ChangeSpec := { name := "fnExactWholeOf", fn := fun _ => fun
  | [d] => { results := [.lit (.bool false)], args := [d] }
  | _ => none }
def FnExactWholeOfWrongFalsely : Prop := fnExactWholeOfRow.holds Try.pinned (OpenSpec.ofChange fnExactWholeOfWrong)

/-- 'laws.FnExactFitsOn': WHATEVER THE INPUT: true; the input reads as it did. -/
def fnExactFitsOnSpec : ChangeSpec := { name := "fnExactFitsOn", fn := fun _ => fun
  | [d1, d2] => { results := [.lit (.bool true)], args := [d1, d2] }
  | _ => none }
def fnExactFitsOnRow : OpenClaim := { program := "ytidmpcnjhpnlcaa", sum := "a300b58231b2fd09005518f8d3be317799fc6b7de652879122b7f59eeea73800", func := "loop.example/g00763/laws.FnExactFitsOn", spec := "fnExactFitsOn", apart := false }
def FnExactFitsOnSaid : Prop := fnExactFitsOnRow.holds Try.pinned (OpenSpec.ofChange fnExactFitsOnSpec)

/-- ITS FALSE NEIGHBOUR: 'it returns false'. Refute it at one input. -/
def fnExactFitsOnWrong : ChangeSpec := { name := "fnExactFitsOn", fn := fun _ => fun
  | [d1, d2] => { results := [.lit (.bool false)], args := [d1, d2] }
  | _ => none }
def FnExactFitsOnWrongFalsely : Prop := fnExactFitsOnRow.holds Try.pinned (OpenSpec.ofChange fnExactFitsOnWrong)

/- THE SECOND FORM. 'bulk': how many values and letters a reading holds, each counted each time it is reached (what is shared counts as often as it is met; a slice's spare places count too). A statement '..UptoSaid' is the law's where the arguments, and the package variables that the reading takes, are together of bulk at most 1048576: NARROWER than '..Said'. Prove '..Said' where nothing that the law and all that it calls make is longer than what came in: it says more and counts as full. Else prove '..UptoSaid'. A law counts once. -/
mutual
def uptoBulk {H : Type} : DataW H → Nat
  | .lit (.string bytes) => bytes.length + 1
  | .lit _ => 1
  | .nil => 1
  | .ptr d => uptoBulk d + 1
  | .slice elems spare => uptoBulkAll elems + uptoBulkAll spare + 1
  | .agg parts => uptoBulkAll parts + 1
  | .iface _ d => uptoBulk d + 1
  | .map entries => uptoBulkEntries entries + 1
  | .held _ => 1
def uptoBulkAll {H : Type} : List (DataW H) → Nat
  | [] => 0
  | d :: r => uptoBulk d + uptoBulkAll r
def uptoBulkEntries {H : Type} : List (Lit × DataW H) → Nat
  | [] => 0
  | x :: r => uptoBulkEntry x + uptoBulkEntries r
def uptoBulkEntry {H : Type} : Lit × DataW H → Nat
  | (.string bytes, d) => bytes.length + uptoBulk d + 1
  | (_, d) => uptoBulk d + 1
 end
def uptoSmall : (H : Type) → List (DataW H) → Bool := fun _ ds => decide (uptoBulkAll ds ≤ 1048576)
def OpenSpec.upto (s : _root_.Go.ChangeSpec) : _root_.Go.OpenSpec := { _root_.Go.OpenSpec.ofChange s with cond := some uptoSmall }

/-- 'laws.FnAdjusted', WHERE WHAT IT READS IS OF BULK AT MOST 1048576: true; the input reads as it did. -/
def fnAdjustedUptoRow : OpenClaim := { program := "ytidmpcnjhpnlcaa", sum := "a300b58231b2fd09005518f8d3be317799fc6b7de652879122b7f59eeea73800", func := "loop.example/g00763/laws.FnAdjusted", spec := "fnAdjusted", unfollowed := true, recurses := true, apart := false, narrowed := true }
def FnAdjustedUptoSaid : Prop := fnAdjustedUptoRow.holds Try.pinned (OpenSpec.upto fnAdjustedSpec)

/-- 'laws.FnExactAdjusted', WHERE WHAT IT READS IS OF BULK AT MOST 1048576: true; the input reads as it did. -/
def fnExactAdjustedUptoRow : OpenClaim := { program := "ytidmpcnjhpnlcaa", sum := "a300b58231b2fd09005518f8d3be317799fc6b7de652879122b7f59eeea73800", func := "loop.example/g00763/laws.FnExactAdjusted", spec := "fnExactAdjusted", unfollowed := true, recurses := true, apart := false, narrowed := true }
def FnExactAdjustedUptoSaid : Prop := fnExactAdjustedUptoRow.holds Try.pinned (OpenSpec.upto fnExactAdjustedSpec)

/-- 'laws.FnExactWholeOf', WHERE WHAT IT READS IS OF BULK AT MOST 1048576: true; the input reads as it did. -/
def fnExactWholeOfUptoRow : OpenClaim := { program := "ytidmpcnjhpnlcaa", sum := "a300b58231b2fd09005518f8d3be317799fc6b7de652879122b7f59eeea73800", func := "loop.example/g00763/laws.FnExactWholeOf", spec := "fnExactWholeOf", apart := false, narrowed := true }
def FnExactWholeOfUptoSaid : Prop := fnExactWholeOfUptoRow.holds Try.pinned (OpenSpec.upto fnExactWholeOfSpec)

/-- 'laws.FnExactFitsOn', WHERE WHAT IT READS IS OF BULK AT MOST 1048576: true; the input reads as it did. -/
def fnExactFitsOnUptoRow : OpenClaim := { program := "ytidmpcnjhpnlcaa", sum := "a300b58231b2fd09005518f8d3be317799fc6b7de652879122b7f59eeea73800", func := "loop.example/g00763/laws.FnExactFitsOn", spec := "fnExactFitsOn", apart := false, narrowed := true }
def FnExactFitsOnUptoSaid : Prop := fnExactFitsOnUptoRow.holds Try.pinned (OpenSpec.upto fnExactFitsOnSpec)

end Rows
end Go.Proofs.Ytidmpcnjhpnlcaa
