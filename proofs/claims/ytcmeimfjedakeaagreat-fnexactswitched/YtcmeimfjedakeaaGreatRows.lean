/-
  No cell of these rows narrows 'for every input' (looked for: loops, veiled, ifaces, maps, wideKeys, modest, calm, conditions, laid).
  DERIVED. THE GIVEN ROWS OF THIS SEAT. 6 by the template 'for every input the law returns true; each argument reads behind the call as it read before'; 0 by the template 'total and deterministic' (their statements: YtcmeimfjedakeaaGreatTotals.lean).
  GIVEN WITH THE SEED: the statements are not yours to turn. If you find one false, say at which input.
  Laid BY PROGRAM, IN A SANDBOX (cutbox-rows.mjs): the forced cells as the released guide's own fill.sh prints them over the translation 1ab8f02fb936b824… (all of the seat's roots in one cut). By AI agents, Wed Nov 11 2026. No macro, syntax, notation, axiom, sorry.
-/
import Derived.Test.YtcmeimfjedakeaaGreatChecked
import GoSem.Claim
import GoSem.ClaimJoined
import GoSem.ClaimMapViews
import Derived.JoinedTies
import Derived.KernelRfl
namespace Go.Proofs.YtcmeimfjedakeaaGreat
/- THE CELL 'sum', in the pinned program and in every row, IS THE sha256 OF THE DUMP (.gsa) THAT YtcmeimfjedakeaaGreatProg.lean LOADS. Nothing in Lean hashes anything: it is a label: what it is worth is what the hold of that sum in a sandbox is worth. -/
noncomputable def Tryz.pinned : Pinned := { name := "ytcmeimfjedakeaagreat", sum := "1ab8f02fb936b824d5c51a6debc908d3b1a43d0bf9b296aafcf35666bd8b1625", checked := Tryz.checked }
namespace Rows
def none {H : Type} : Left H := { results := [], args := [] }

/-- 'laws.FnNewShop': WHATEVER THE INPUT: true; the input reads as it did. -/
def fnNewShopSpec : ChangeSpec := { name := "fnNewShop", fn := fun _ => fun
  | [d] => { results := [.lit (.bool true)], args := [d] }
  | _ => none }
def fnNewShopRow : OpenClaim := { program := "ytcmeimfjedakeaagreat", sum := "1ab8f02fb936b824d5c51a6debc908d3b1a43d0bf9b296aafcf35666bd8b1625", func := "loop.example/g00763/laws.FnNewShop", spec := "fnNewShop", unfollowed := true, recurses := true, apart := false }
def FnNewShopSaid : Prop := fnNewShopRow.holds Tryz.pinned (OpenSpec.ofChange fnNewShopSpec)

/-- ITS FALSE NEIGHBOUR: 'it returns false'. Refute it at one input. -/
def fnNewShopWrong : ChangeSpec := { name := "fnNewShop", fn := fun _ => fun
  | [d] => { results := [.lit (.bool false)], args := [d] }
  | _ => none }
def FnNewShopWrongFalsely : Prop := fnNewShopRow.holds Tryz.pinned (OpenSpec.ofChange fnNewShopWrong)

/-- 'laws.FnExactReopened': WHATEVER THE INPUT: true; the input reads as it did. -/
def fnExactReopenedSpec : ChangeSpec := { name := "fnExactReopened", fn := fun _ => fun
  | [d] => { results := [.lit (.bool true)], args := [d] }
  | _ => none }
def fnExactReopenedRow : OpenClaim := { program := "ytcmeimfjedakeaagreat", sum := "1ab8f02fb936b824d5c51a6debc908d3b1a43d0bf9b296aafcf35666bd8b1625", func := "loop.example/g00763/laws.FnExactReopened", spec := "fnExactReopened", unfollowed := true, recurses := true, apart := false }
def FnExactReopenedSaid : Prop := fnExactReopenedRow.holds Tryz.pinned (OpenSpec.ofChange fnExactReopenedSpec)

/-- ITS FALSE NEIGHBOUR: 'it returns false'. Refute it at one input. -/
def fnExactReopenedWrong : ChangeSpec := { name := "fnExactReopened", fn := fun _ => fun
  | [d] => { results := [.lit (.bool false)], args := [d] }
  | _ => none }
def FnExactReopenedWrongFalsely : Prop := fnExactReopenedRow.holds Tryz.pinned (OpenSpec.ofChange fnExactReopenedWrong)

/-- 'laws.FnExactOpened': WHATEVER THE INPUT: true; the input reads as it did. -/
def fnExactOpenedSpec : ChangeSpec := { name := "fnExactOpened", fn := fun _ => fun
  | [d1, d2, d3] => { results := [.lit (.bool true)], args := [d1, d2, d3] }
  | _ => none }
def fnExactOpenedRow : OpenClaim := { program := "ytcmeimfjedakeaagreat", sum := "1ab8f02fb936b824d5c51a6debc908d3b1a43d0bf9b296aafcf35666bd8b1625", func := "loop.example/g00763/laws.FnExactOpened", spec := "fnExactOpened", unfollowed := true, recurses := true, apart := false }
def FnExactOpenedSaid : Prop := fnExactOpenedRow.holds Tryz.pinned (OpenSpec.ofChange fnExactOpenedSpec)

/-- ITS FALSE NEIGHBOUR: 'it returns false'. Refute it at one input. -/
def fnExactOpenedWrong : ChangeSpec := { name := "fnExactOpened", fn := fun _ => fun
  | [d1, d2, d3] => { results := [.lit (.bool false)], args := [d1, d2, d3] }
  | _ => none }
def FnExactOpenedWrongFalsely : Prop := fnExactOpenedRow.holds Tryz.pinned (OpenSpec.ofChange fnExactOpenedWrong)

/-- 'laws.FnExactTurned': WHATEVER THE INPUT: true; the input reads as it did. -/
def fnExactTurnedSpec : ChangeSpec := { name := "fnExactTurned", fn := fun _ => fun
  | [d1, d2, d3] => { results := [.lit (.bool true)], args := [d1, d2, d3] }
  | _ => none }
def fnExactTurnedRow : OpenClaim := { program := "ytcmeimfjedakeaagreat", sum := "1ab8f02fb936b824d5c51a6debc908d3b1a43d0bf9b296aafcf35666bd8b1625", func := "loop.example/g00763/laws.FnExactTurned", spec := "fnExactTurned", unfollowed := true, recurses := true, apart := false }
def FnExactTurnedSaid : Prop := fnExactTurnedRow.holds Tryz.pinned (OpenSpec.ofChange fnExactTurnedSpec)

/-- ITS FALSE NEIGHBOUR: 'it returns false'. Refute it at one input. -/
def fnExactTurnedWrong : ChangeSpec := { name := "fnExactTurned", fn := fun _ => fun
  | [d1, d2, d3] => { results := [.lit (.bool false)], args := [d1, d2, d3] }
  | _ => none }
def FnExactTurnedWrongFalsely : Prop := fnExactTurnedRow.holds Tryz.pinned (OpenSpec.ofChange fnExactTurnedWrong)

/-- 'laws.FnExactReweighed': WHATEVER THE INPUT: true; the input reads as it did. -/
def fnExactReweighedSpec : ChangeSpec := { name := "fnExactReweighed", fn := fun _ => fun
  | [d1, d2, d3] => { results := [.lit (.bool true)], args := [d1, d2, d3] }
  | _ => none }
def fnExactReweighedRow : OpenClaim := { program := "ytcmeimfjedakeaagreat", sum := "1ab8f02fb936b824d5c51a6debc908d3b1a43d0bf9b296aafcf35666bd8b1625", func := "loop.example/g00763/laws.FnExactReweighed", spec := "fnExactReweighed", unfollowed := true, recurses := true, apart := false }
def FnExactReweighedSaid : Prop := fnExactReweighedRow.holds Tryz.pinned (OpenSpec.ofChange fnExactReweighedSpec)

/-- ITS FALSE NEIGHBOUR: 'it returns false'. Refute it at one input. -/
def fnExactReweighedWrong : ChangeSpec := { name := "fnExactReweighed", fn := fun _ => fun
  | [d1, d2, d3] => { results := [.lit (.bool false)], args := [d1, d2, d3] }
  | _ => none }
def FnExactReweighedWrongFalsely : Prop := fnExactReweighedRow.holds Tryz.pinned (OpenSpec.ofChange fnExactReweighedWrong)

/-- 'laws.FnExactSwitched': WHATEVER THE INPUT: true; the input reads as it did. -/
def fnExactSwitchedSpec : ChangeSpec := { name := "fnExactSwitched", fn := fun _ => fun
  | [d1, d2, d3] => { results := [.lit (.bool true)], args := [d1, d2, d3] }
  | _ => none }
def fnExactSwitchedRow : OpenClaim := { program := "ytcmeimfjedakeaagreat", sum := "1ab8f02fb936b824d5c51a6debc908d3b1a43d0bf9b296aafcf35666bd8b1625", func := "loop.example/g00763/laws.FnExactSwitched", spec := "fnExactSwitched", unfollowed := true, recurses := true, apart := false }
def FnExactSwitchedSaid : Prop := fnExactSwitchedRow.holds Tryz.pinned (OpenSpec.ofChange fnExactSwitchedSpec)

/-- ITS FALSE NEIGHBOUR: 'it returns false'. Refute it at one input. -/
def fnExactSwitchedWrong : ChangeSpec := { name := "fnExactSwitched", fn := fun _ => fun
  | [d1, d2, d3] => { results := [.lit (.bool false)], args := [d1, d2, d3] }
  | _ => none }
def FnExactSwitchedWrongFalsely : Prop := fnExactSwitchedRow.holds Tryz.pinned (OpenSpec.ofChange fnExactSwitchedWrong)

/- THE SECOND FORM. 'bulk': how many values and letters a reading holds, each counted each time it is reached (what is shared counts as often as it is met; a slice's spare places count too). A statement '..UptoSaid' is the law's where the arguments, and the package variables that the reading takes, are together of bulk at most 1048576: NARROWER than '..Said'. Prove '..Said' where nothing that the law and all that it calls make is longer than what came in: it says more and counts as full. Else prove '..UptoSaid'. A law counts once. -/
mutual
def uptoBulk {H : Type} : DataW H → Nat
  | .lit (.string bytes) => bytes.length + 1
  | .lit _ => 1
  | .nil => 1
  | .ptr d => uptoBulk d + 1
  | .slice elems spare => uptoBulkAll elems + uptoBulkAll spare + 1
  | .agg parts => uptoBulkAll parts + 1
  | .iface _ d => uptoBulk d + 1
  | .map entries => uptoBulkEntries entries + 1
  | .held _ => 1
def uptoBulkAll {H : Type} : List (DataW H) → Nat
  | [] => 0
  | d :: r => uptoBulk d + uptoBulkAll r
def uptoBulkEntries {H : Type} : List (Lit × DataW H) → Nat
  | [] => 0
  | x :: r => uptoBulkEntry x + uptoBulkEntries r
def uptoBulkEntry {H : Type} : Lit × DataW H → Nat
  | (.string bytes, d) => bytes.length + uptoBulk d + 1
  | (_, d) => uptoBulk d + 1
 end
def uptoSmall : (H : Type) → List (DataW H) → Bool := fun _ ds => decide (uptoBulkAll ds ≤ 1048576)
def OpenSpec.upto (s : _root_.Go.ChangeSpec) : _root_.Go.OpenSpec := { _root_.Go.OpenSpec.ofChange s with cond := some uptoSmall }

/-- 'laws.FnNewShop', WHERE WHAT IT READS IS OF BULK AT MOST 1048576: true; the input reads as it did. -/
def fnNewShopUptoRow : OpenClaim := { program := "ytcmeimfjedakeaagreat", sum := "1ab8f02fb936b824d5c51a6debc908d3b1a43d0bf9b296aafcf35666bd8b1625", func := "loop.example/g00763/laws.FnNewShop", spec := "fnNewShop", unfollowed := true, recurses := true, apart := false, narrowed := true }
def FnNewShopUptoSaid : Prop := fnNewShopUptoRow.holds Tryz.pinned (OpenSpec.upto fnNewShopSpec)

/-- 'laws.FnExactReopened', WHERE WHAT IT READS IS OF BULK AT MOST 1048576: true; the input reads as it did. -/
def fnExactReopenedUptoRow : OpenClaim := { program := "ytcmeimfjedakeaagreat", sum := "1ab8f02fb936b824d5c51a6debc908d3b1a43d0bf9b296aafcf35666bd8b1625", func := "loop.example/g00763/laws.FnExactReopened", spec := "fnExactReopened", unfollowed := true, recurses := true, apart := false, narrowed := true }
def FnExactReopenedUptoSaid : Prop := fnExactReopenedUptoRow.holds Tryz.pinned (OpenSpec.upto fnExactReopenedSpec)

/-- 'laws.FnExactOpened', WHERE WHAT IT READS IS OF BULK AT MOST 1048576: true; the input reads as it did. -/
def fnExactOpenedUptoRow : OpenClaim := { program := "ytcmeimfjedakeaagreat", sum := "1ab8f02fb936b824d5c51a6debc908d3b1a43d0bf9b296aafcf35666bd8b1625", func := "loop.example/g00763/laws.FnExactOpened", spec := "fnExactOpened", unfollowed := true, recurses := true, apart := false, narrowed := true }
def FnExactOpenedUptoSaid : Prop := fnExactOpenedUptoRow.holds Tryz.pinned (OpenSpec.upto fnExactOpenedSpec)

/-- 'laws.FnExactTurned', WHERE WHAT IT READS IS OF BULK AT MOST 1048576: true; the input reads as it did. -/
def fnExactTurnedUptoRow : OpenClaim := { program := "ytcmeimfjedakeaagreat", sum := "1ab8f02fb936b824d5c51a6debc908d3b1a43d0bf9b296aafcf35666bd8b1625", func := "loop.example/g00763/laws.FnExactTurned", spec := "fnExactTurned", unfollowed := true, recurses := true, apart := false, narrowed := true }
def FnExactTurnedUptoSaid : Prop := fnExactTurnedUptoRow.holds Tryz.pinned (OpenSpec.upto fnExactTurnedSpec)

/-- 'laws.FnExactReweighed', WHERE WHAT IT READS IS OF BULK AT MOST 1048576: true; the input reads as it did. -/
def fnExactReweighedUptoRow : OpenClaim := { program := "ytcmeimfjedakeaagreat", sum := "1ab8f02fb936b824d5c51a6debc908d3b1a43d0bf9b296aafcf35666bd8b1625", func := "loop.example/g00763/laws.FnExactReweighed", spec := "fnExactReweighed", unfollowed := true, recurses := true, apart := false, narrowed := true }
def FnExactReweighedUptoSaid : Prop := fnExactReweighedUptoRow.holds Tryz.pinned (OpenSpec.upto fnExactReweighedSpec)

/-- 'laws.FnExactSwitched', WHERE WHAT IT READS IS OF BULK AT MOST 1048576: true; the input reads as it did. -/
def fnExactSwitchedUptoRow : OpenClaim := { program := "ytcmeimfjedakeaagreat", sum := "1ab8f02fb936b824d5c51a6debc908d3b1a43d0bf9b296aafcf35666bd8b1625", func := "loop.example/g00763/laws.FnExactSwitched", spec := "fnExactSwitched", unfollowed := true, recurses := true, apart := false, narrowed := true }
def FnExactSwitchedUptoSaid : Prop := fnExactSwitchedUptoRow.holds Tryz.pinned (OpenSpec.upto fnExactSwitchedSpec)

end Rows
end Go.Proofs.YtcmeimfjedakeaaGreat
