/-
  No cell of these rows narrows 'for every input' (looked for: loops, veiled, ifaces, maps, wideKeys, modest, calm, conditions, laid).
  DERIVED. THE GIVEN ROWS OF THIS SEAT. 5 by the template 'for every input the law returns true; each argument reads behind the call as it read before'; 0 by the template 'total and deterministic' (their statements: YtajnmmcgocfjlaaTotals.lean).
  GIVEN WITH THE SEED: the statements are not yours to turn. If you find one false, say at which input.
  Laid BY PROGRAM, IN A SANDBOX (cutbox-rows.mjs): the forced cells as the released guide's own fill.sh prints them over the translation f1da06835b2dabe2… (all of the seat's roots in one cut). By AI agents, Wed Nov 11 2026. No macro, syntax, notation, axiom, sorry.
-/
import Derived.Test.YtajnmmcgocfjlaaChecked
import GoSem.Claim
import GoSem.ClaimJoined
import GoSem.ClaimMapViews
import Derived.JoinedTies
import Derived.KernelRfl
namespace Go.Proofs.Ytajnmmcgocfjlaa
/- THE CELL 'sum', in the pinned program and in every row, IS THE sha256 OF THE DUMP (.gsa) THAT YtajnmmcgocfjlaaProg.lean LOADS. Nothing in Lean hashes anything: it is a label: what it is worth is what the hold of that sum in a sandbox is worth. -/
noncomputable def Try.pinned : Pinned := { name := "ytajnmmcgocfjlaa", sum := "f1da06835b2dabe25edf7a797403ce278991b44bd3289935650366332ad789a2", checked := Try.checked }
namespace Rows
def none {H : Type} : Left H := { results := [], args := [] }

/-- 'laws.FnFracs': WHATEVER THE INPUT: true; the input reads as it did. -/
def fnFracsSpec : ChangeSpec := { name := "fnFracs", fn := fun _ => fun
  | [d] => { results := [.lit (.bool true)], args := [d] }
  | _ => none }
def fnFracsRow : OpenClaim := { program := "ytajnmmcgocfjlaa", sum := "f1da06835b2dabe25edf7a797403ce278991b44bd3289935650366332ad789a2", func := "loop.example/g00763/laws.FnFracs", spec := "fnFracs", unfollowed := true, recurses := true, apart := false }
def FnFracsSaid : Prop := fnFracsRow.holds Try.pinned (OpenSpec.ofChange fnFracsSpec)

/-- ITS FALSE NEIGHBOUR: 'it returns false'. Refute it at one input. -/
def fnFracsWrong : ChangeSpec := { name := "fnFracs", fn := fun _ => fun
  | [d] => { results := [.lit (.bool false)], args := [d] }
  | _ => none }
def FnFracsWrongFalsely : Prop := fnFracsRow.holds Try.pinned (OpenSpec.ofChange fnFracsWrong)

/-- 'laws.FnQuotients': WHATEVER THE INPUT: true; the input reads as it did. -/
def fnQuotientsSpec : ChangeSpec := { name := "fnQuotients", fn := fun _ => fun
  | [d] => { results := [.lit (.bool true)], args := [d] }
  | _ => none }
def fnQuotientsRow : OpenClaim := { program := "ytajnmmcgocfjlaa", sum := "f1da06835b2dabe25edf7a797403ce278991b44bd3289935650366332ad789a2", func := "loop.example/g00763/laws.FnQuotients", spec := "fnQuotients", unfollowed := true, recurses := true, named := ["math/bits.divideError", "math/bits.overflowError"], apart := false }
def FnQuotientsSaid : Prop := fnQuotientsRow.holds Try.pinned (OpenSpec.ofChange fnQuotientsSpec)

/-- ITS FALSE NEIGHBOUR: 'it returns false'. Refute it at one input. -/
def fnQuotientsWrong : ChangeSpec := { name := "fnQuotients", fn := fun _ => fun
  | [d] => { results := [.lit (.bool false)], args := [d] }
  | _ => none }
def FnQuotientsWrongFalsely : Prop := fnQuotientsRow.holds Try.pinned (OpenSpec.ofChange fnQuotientsWrong)

/-- 'laws.FnExactLessFrac': WHATEVER THE INPUT: true; the input reads as it did. -/
def fnExactLessFracSpec : ChangeSpec := { name := "fnExactLessFrac", fn := fun _ => fun
  | [d1, d2, d3, d4] => { results := [.lit (.bool true)], args := [d1, d2, d3, d4] }
  | _ => none }
def fnExactLessFracRow : OpenClaim := { program := "ytajnmmcgocfjlaa", sum := "f1da06835b2dabe25edf7a797403ce278991b44bd3289935650366332ad789a2", func := "loop.example/g00763/laws.FnExactLessFrac", spec := "fnExactLessFrac", unfollowed := true, recurses := true, apart := false }
def FnExactLessFracSaid : Prop := fnExactLessFracRow.holds Try.pinned (OpenSpec.ofChange fnExactLessFracSpec)

/-- ITS FALSE NEIGHBOUR: 'it returns false'. Refute it at one input. -/
def fnExactLessFracWrong : ChangeSpec := { name := "fnExactLessFrac", fn := fun _ => fun
  | [d1, d2, d3, d4] => { results := [.lit (.bool false)], args := [d1, d2, d3, d4] }
  | _ => none }
def FnExactLessFracWrongFalsely : Prop := fnExactLessFracRow.holds Try.pinned (OpenSpec.ofChange fnExactLessFracWrong)

/-- 'laws.FnExactFloorOf': WHATEVER THE INPUT: true; the input reads as it did. -/
def fnExactFloorOfSpec : ChangeSpec := { name := "fnExactFloorOf", fn := fun _ => fun
  | [d1, d2, d3] => { results := [.lit (.bool true)], args := [d1, d2, d3] }
  | _ => none }
def fnExactFloorOfRow : OpenClaim := { program := "ytajnmmcgocfjlaa", sum := "f1da06835b2dabe25edf7a797403ce278991b44bd3289935650366332ad789a2", func := "loop.example/g00763/laws.FnExactFloorOf", spec := "fnExactFloorOf", unfollowed := true, recurses := true, named := ["math/bits.divideError", "math/bits.overflowError"], apart := false }
def FnExactFloorOfSaid : Prop := fnExactFloorOfRow.holds Try.pinned (OpenSpec.ofChange fnExactFloorOfSpec)

/-- ITS FALSE NEIGHBOUR: 'it returns false'. Refute it at one input. -/
def fnExactFloorOfWrong : ChangeSpec := { name := "fnExactFloorOf", fn := fun _ => fun
  | [d1, d2, d3] => { results := [.lit (.bool false)], args := [d1, d2, d3] }
  | _ => none }
def FnExactFloorOfWrongFalsely : Prop := fnExactFloorOfRow.holds Try.pinned (OpenSpec.ofChange fnExactFloorOfWrong)

/-- 'laws.FnExactCeilOf': WHATEVER THE INPUT: true; the input reads as it did. -/
def fnExactCeilOfSpec : ChangeSpec := { name := "fnExactCeilOf", fn := fun _ => fun
  | [d1, d2, d3] => { results := [.lit (.bool true)], args := [d1, d2, d3] }
  | _ => none }
def fnExactCeilOfRow : OpenClaim := { program := "ytajnmmcgocfjlaa", sum := "f1da06835b2dabe25edf7a797403ce278991b44bd3289935650366332ad789a2", func := "loop.example/g00763/laws.FnExactCeilOf", spec := "fnExactCeilOf", unfollowed := true, recurses := true, named := ["math/bits.divideError", "math/bits.overflowError"], apart := false }
def FnExactCeilOfSaid : Prop := fnExactCeilOfRow.holds Try.pinned (OpenSpec.ofChange fnExactCeilOfSpec)

/-- ITS FALSE NEIGHBOUR: 'it returns false'. Refute it at one input. -/
def fnExactCeilOfWrong : ChangeSpec := { name := "fnExactCeilOf", fn := fun _ => fun
  | [d1, d2, d3] => { results := [.lit (.bool false)], args := [d1, d2, d3] }
  | _ => none }
def FnExactCeilOfWrongFalsely : Prop := fnExactCeilOfRow.holds Try.pinned (OpenSpec.ofChange fnExactCeilOfWrong)

/- THE SECOND FORM. 'bulk': how many values and letters a reading holds, each counted each time it is reached (what is shared counts as often as it is met; a slice's spare places count too). A statement '..UptoSaid' is the law's where the arguments, and the package variables that the reading takes, are together of bulk at most 1048576: NARROWER than '..Said'. Prove '..Said' where nothing that the law and all that it calls make is longer than what came in: it says more and counts as full. Else prove '..UptoSaid'. A law counts once. -/
mutual
def uptoBulk {H : Type} : DataW H → Nat
  | .lit (.string bytes) => bytes.length + 1
  | .lit _ => 1
  | .nil => 1
  | .ptr d => uptoBulk d + 1
  | .slice elems spare => uptoBulkAll elems + uptoBulkAll spare + 1
  | .agg parts => uptoBulkAll parts + 1
  | .iface _ d => uptoBulk d + 1
  | .map entries => uptoBulkEntries entries + 1
  | .held _ => 1
def uptoBulkAll {H : Type} : List (DataW H) → Nat
  | [] => 0
  | d :: r => uptoBulk d + uptoBulkAll r
def uptoBulkEntries {H : Type} : List (Lit × DataW H) → Nat
  | [] => 0
  | x :: r => uptoBulkEntry x + uptoBulkEntries r
def uptoBulkEntry {H : Type} : Lit × DataW H → Nat
  | (.string bytes, d) => bytes.length + uptoBulk d + 1
  | (_, d) => uptoBulk d + 1
 end
def uptoSmall : (H : Type) → List (DataW H) → Bool := fun _ ds => decide (uptoBulkAll ds ≤ 1048576)
def OpenSpec.upto (s : _root_.Go.ChangeSpec) : _root_.Go.OpenSpec := { _root_.Go.OpenSpec.ofChange s with cond := some uptoSmall }

/-- 'laws.FnFracs', WHERE WHAT IT READS IS OF BULK AT MOST 1048576: true; the input reads as it did. -/
def fnFracsUptoRow : OpenClaim := { program := "ytajnmmcgocfjlaa", sum := "f1da06835b2dabe25edf7a797403ce278991b44bd3289935650366332ad789a2", func := "loop.example/g00763/laws.FnFracs", spec := "fnFracs", unfollowed := true, recurses := true, apart := false, narrowed := true }
def FnFracsUptoSaid : Prop := fnFracsUptoRow.holds Try.pinned (OpenSpec.upto fnFracsSpec)

/-- 'laws.FnQuotients', WHERE WHAT IT READS IS OF BULK AT MOST 1048576: true; the input reads as it did. -/
def fnQuotientsUptoRow : OpenClaim := { program := "ytajnmmcgocfjlaa", sum := "f1da06835b2dabe25edf7a797403ce278991b44bd3289935650366332ad789a2", func := "loop.example/g00763/laws.FnQuotients", spec := "fnQuotients", unfollowed := true, recurses := true, named := ["math/bits.divideError", "math/bits.overflowError"], apart := false, narrowed := true }
def FnQuotientsUptoSaid : Prop := fnQuotientsUptoRow.holds Try.pinned (OpenSpec.upto fnQuotientsSpec)

/-- 'laws.FnExactLessFrac', WHERE WHAT IT READS IS OF BULK AT MOST 1048576: true; the input reads as it did. -/
def fnExactLessFracUptoRow : OpenClaim := { program := "ytajnmmcgocfjlaa", sum := "f1da06835b2dabe25edf7a797403ce278991b44bd3289935650366332ad789a2", func := "loop.example/g00763/laws.FnExactLessFrac", spec := "fnExactLessFrac", unfollowed := true, recurses := true, apart := false, narrowed := true }
def FnExactLessFracUptoSaid : Prop := fnExactLessFracUptoRow.holds Try.pinned (OpenSpec.upto fnExactLessFracSpec)

/-- 'laws.FnExactFloorOf', WHERE WHAT IT READS IS OF BULK AT MOST 1048576: true; the input reads as it did. -/
def fnExactFloorOfUptoRow : OpenClaim := { program := "ytajnmmcgocfjlaa", sum := "f1da06835b2dabe25edf7a797403ce278991b44bd3289935650366332ad789a2", func := "loop.example/g00763/laws.FnExactFloorOf", spec := "fnExactFloorOf", unfollowed := true, recurses := true, named := ["math/bits.divideError", "math/bits.overflowError"], apart := false, narrowed := true }
def FnExactFloorOfUptoSaid : Prop := fnExactFloorOfUptoRow.holds Try.pinned (OpenSpec.upto fnExactFloorOfSpec)

/-- 'laws.FnExactCeilOf', WHERE WHAT IT READS IS OF BULK AT MOST 1048576: true; the input reads as it did. -/
def fnExactCeilOfUptoRow : OpenClaim := { program := "ytajnmmcgocfjlaa", sum := "f1da06835b2dabe25edf7a797403ce278991b44bd3289935650366332ad789a2", func := "loop.example/g00763/laws.FnExactCeilOf", spec := "fnExactCeilOf", unfollowed := true, recurses := true, named := ["math/bits.divideError", "math/bits.overflowError"], apart := false, narrowed := true }
def FnExactCeilOfUptoSaid : Prop := fnExactCeilOfUptoRow.holds Try.pinned (OpenSpec.upto fnExactCeilOfSpec)

end Rows
end Go.Proofs.Ytajnmmcgocfjlaa
