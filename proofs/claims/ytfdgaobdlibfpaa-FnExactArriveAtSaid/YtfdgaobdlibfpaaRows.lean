/-
  No cell of these rows narrows 'for every input' (looked for: loops, veiled, ifaces, maps, wideKeys, modest, calm, conditions, laid).
  DERIVED. THE GIVEN ROWS OF THIS SEAT. 11 by the template 'for every input the law returns true; each argument reads behind the call as it read before'; 0 by the template 'total and deterministic' (their statements: YtfdgaobdlibfpaaTotals.lean).
  GIVEN WITH THE SEED: the statements are not yours to turn. If you find one false, say at which input.
  Laid BY PROGRAM, IN A SANDBOX (cutbox-rows.mjs): the forced cells as the released guide's own fill.sh prints them over the translation e7bf712e678ddf21… (all of the seat's roots in one cut). By AI agents, Wed Nov 11 2026. No macro, syntax, notation, axiom, sorry.
-/
import Derived.Test.YtfdgaobdlibfpaaChecked
import GoSem.Claim
import GoSem.ClaimJoined
import GoSem.ClaimMapViews
import Derived.JoinedTies
import Derived.KernelRfl
namespace Go.Proofs.Ytfdgaobdlibfpaa
/- THE CELL 'sum', in the pinned program and in every row, IS THE sha256 OF THE DUMP (.gsa) THAT YtfdgaobdlibfpaaProg.lean LOADS. Nothing in Lean hashes anything: it is a label: what it is worth is what the hold of that sum in a sandbox is worth. -/
noncomputable def Try.pinned : Pinned := { name := "ytfdgaobdlibfpaa", sum := "e7bf712e678ddf215aa3c1c4c848e2bedcd93c0d82b9323c1fa8fd5e1519dfd7", checked := Try.checked }
namespace Rows
def none {H : Type} : Left H := { results := [], args := [] }

/-- 'laws.FnExactValidNodes': WHATEVER THE INPUT: true; the input reads as it did. -/
def fnExactValidNodesSpec : ChangeSpec := { name := "fnExactValidNodes", fn := fun _ => fun
  | [d] => { results := [.lit (.bool true)], args := [d] }
  | _ => none }
def fnExactValidNodesRow : OpenClaim := { program := "ytfdgaobdlibfpaa", sum := "e7bf712e678ddf215aa3c1c4c848e2bedcd93c0d82b9323c1fa8fd5e1519dfd7", func := "loop.example/watershares/laws.FnExactValidNodes", spec := "fnExactValidNodes", apart := false }
def FnExactValidNodesSaid : Prop := fnExactValidNodesRow.holds Try.pinned (OpenSpec.ofChange fnExactValidNodesSpec)

/-- ITS FALSE NEIGHBOUR: 'it returns false'. Refute it at one input. -/
def fnExactValidNodesWrong : ChangeSpec := { name := "fnExactValidNodes", fn := fun _ => fun
  | [d] => { results := [.lit (.bool false)], args := [d] }
  | _ => none }
def FnExactValidNodesWrongFalsely : Prop := fnExactValidNodesRow.holds Try.pinned (OpenSpec.ofChange fnExactValidNodesWrong)

/-- 'laws.FnExactKidsOf': WHATEVER THE INPUT: true; the input reads as it did. -/
def fnExactKidsOfSpec : ChangeSpec := { name := "fnExactKidsOf", fn := fun _ => fun
  | [d1, d2] => { results := [.lit (.bool true)], args := [d1, d2] }
  | _ => none }
def fnExactKidsOfRow : OpenClaim := { program := "ytfdgaobdlibfpaa", sum := "e7bf712e678ddf215aa3c1c4c848e2bedcd93c0d82b9323c1fa8fd5e1519dfd7", func := "loop.example/watershares/laws.FnExactKidsOf", spec := "fnExactKidsOf", apart := false }
def FnExactKidsOfSaid : Prop := fnExactKidsOfRow.holds Try.pinned (OpenSpec.ofChange fnExactKidsOfSpec)

/-- ITS FALSE NEIGHBOUR: 'it returns false'. Refute it at one input. -/
def fnExactKidsOfWrong : ChangeSpec := { name := "fnExactKidsOf", fn := fun _ => fun
  | [d1, d2] => { results := [.lit (.bool false)], args := [d1, d2] }
  | _ => none }
def FnExactKidsOfWrongFalsely : Prop := fnExactKidsOfRow.holds Try.pinned (OpenSpec.ofChange fnExactKidsOfWrong)

/-- 'laws.FnExactPathTo': WHATEVER THE INPUT: true; the input reads as it did. -/
def fnExactPathToSpec : ChangeSpec := { name := "fnExactPathTo", fn := fun _ => fun
  | [d1, d2] => { results := [.lit (.bool true)], args := [d1, d2] }
  | _ => none }
def fnExactPathToRow : OpenClaim := { program := "ytfdgaobdlibfpaa", sum := "e7bf712e678ddf215aa3c1c4c848e2bedcd93c0d82b9323c1fa8fd5e1519dfd7", func := "loop.example/watershares/laws.FnExactPathTo", spec := "fnExactPathTo", apart := false }
def FnExactPathToSaid : Prop := fnExactPathToRow.holds Try.pinned (OpenSpec.ofChange fnExactPathToSpec)

/-- ITS FALSE NEIGHBOUR: 'it returns false'. Refute it at one input. -/
def fnExactPathToWrong : ChangeSpec := { name := "fnExactPathTo", fn := fun _ => fun
  | [d1, d2] => { results := [.lit (.bool false)], args := [d1, d2] }
  | _ => none }
def FnExactPathToWrongFalsely : Prop := fnExactPathToRow.holds Try.pinned (OpenSpec.ofChange fnExactPathToWrong)

/-- 'laws.FnExactDelayTo': WHATEVER THE INPUT: true; the input reads as it did. -/
def fnExactDelayToSpec : ChangeSpec := { name := "fnExactDelayTo", fn := fun _ => fun
  | [d1, d2] => { results := [.lit (.bool true)], args := [d1, d2] }
  | _ => none }
def fnExactDelayToRow : OpenClaim := { program := "ytfdgaobdlibfpaa", sum := "e7bf712e678ddf215aa3c1c4c848e2bedcd93c0d82b9323c1fa8fd5e1519dfd7", func := "loop.example/watershares/laws.FnExactDelayTo", spec := "fnExactDelayTo", apart := false }
def FnExactDelayToSaid : Prop := fnExactDelayToRow.holds Try.pinned (OpenSpec.ofChange fnExactDelayToSpec)

/-- ITS FALSE NEIGHBOUR: 'it returns false'. Refute it at one input. -/
def fnExactDelayToWrong : ChangeSpec := { name := "fnExactDelayTo", fn := fun _ => fun
  | [d1, d2] => { results := [.lit (.bool false)], args := [d1, d2] }
  | _ => none }
def FnExactDelayToWrongFalsely : Prop := fnExactDelayToRow.holds Try.pinned (OpenSpec.ofChange fnExactDelayToWrong)

/-- 'laws.FnExactLeavesOf': WHATEVER THE INPUT: true; the input reads as it did. -/
def fnExactLeavesOfSpec : ChangeSpec := { name := "fnExactLeavesOf", fn := fun _ => fun
  | [d] => { results := [.lit (.bool true)], args := [d] }
  | _ => none }
def fnExactLeavesOfRow : OpenClaim := { program := "ytfdgaobdlibfpaa", sum := "e7bf712e678ddf215aa3c1c4c848e2bedcd93c0d82b9323c1fa8fd5e1519dfd7", func := "loop.example/watershares/laws.FnExactLeavesOf", spec := "fnExactLeavesOf", apart := false }
def FnExactLeavesOfSaid : Prop := fnExactLeavesOfRow.holds Try.pinned (OpenSpec.ofChange fnExactLeavesOfSpec)

/-- ITS FALSE NEIGHBOUR: 'it returns false'. Refute it at one input. -/
def fnExactLeavesOfWrong : ChangeSpec := { name := "fnExactLeavesOf", fn := fun _ => fun
  | [d] => { results := [.lit (.bool false)], args := [d] }
  | _ => none }
def FnExactLeavesOfWrongFalsely : Prop := fnExactLeavesOfRow.holds Try.pinned (OpenSpec.ofChange fnExactLeavesOfWrong)

/-- 'laws.FnExactFlowsOf': WHATEVER THE INPUT: true; the input reads as it did. -/
def fnExactFlowsOfSpec : ChangeSpec := { name := "fnExactFlowsOf", fn := fun _ => fun
  | [d1, d2] => { results := [.lit (.bool true)], args := [d1, d2] }
  | _ => none }
def fnExactFlowsOfRow : OpenClaim := { program := "ytfdgaobdlibfpaa", sum := "e7bf712e678ddf215aa3c1c4c848e2bedcd93c0d82b9323c1fa8fd5e1519dfd7", func := "loop.example/watershares/laws.FnExactFlowsOf", spec := "fnExactFlowsOf", apart := false }
def FnExactFlowsOfSaid : Prop := fnExactFlowsOfRow.holds Try.pinned (OpenSpec.ofChange fnExactFlowsOfSpec)

/-- ITS FALSE NEIGHBOUR: 'it returns false'. Refute it at one input. -/
def fnExactFlowsOfWrong : ChangeSpec := { name := "fnExactFlowsOf", fn := fun _ => fun
  | [d1, d2] => { results := [.lit (.bool false)], args := [d1, d2] }
  | _ => none }
def FnExactFlowsOfWrongFalsely : Prop := fnExactFlowsOfRow.holds Try.pinned (OpenSpec.ofChange fnExactFlowsOfWrong)

/-- 'laws.FnExactPassedOf': WHATEVER THE INPUT: true; the input reads as it did. -/
def fnExactPassedOfSpec : ChangeSpec := { name := "fnExactPassedOf", fn := fun _ => fun
  | [d1, d2] => { results := [.lit (.bool true)], args := [d1, d2] }
  | _ => none }
def fnExactPassedOfRow : OpenClaim := { program := "ytfdgaobdlibfpaa", sum := "e7bf712e678ddf215aa3c1c4c848e2bedcd93c0d82b9323c1fa8fd5e1519dfd7", func := "loop.example/watershares/laws.FnExactPassedOf", spec := "fnExactPassedOf", apart := false }
def FnExactPassedOfSaid : Prop := fnExactPassedOfRow.holds Try.pinned (OpenSpec.ofChange fnExactPassedOfSpec)

/-- ITS FALSE NEIGHBOUR: 'it returns false'. Refute it at one input. -/
def fnExactPassedOfWrong : ChangeSpec := { name := "fnExactPassedOf", fn := fun _ => fun
  | [d1, d2] => { results := [.lit (.bool false)], args := [d1, d2] }
  | _ => none }
def FnExactPassedOfWrongFalsely : Prop := fnExactPassedOfRow.holds Try.pinned (OpenSpec.ofChange fnExactPassedOfWrong)

/-- 'laws.FnExactLostIn': WHATEVER THE INPUT: true; the input reads as it did. -/
def fnExactLostInSpec : ChangeSpec := { name := "fnExactLostIn", fn := fun _ => fun
  | [d1, d2] => { results := [.lit (.bool true)], args := [d1, d2] }
  | _ => none }
def fnExactLostInRow : OpenClaim := { program := "ytfdgaobdlibfpaa", sum := "e7bf712e678ddf215aa3c1c4c848e2bedcd93c0d82b9323c1fa8fd5e1519dfd7", func := "loop.example/watershares/laws.FnExactLostIn", spec := "fnExactLostIn", apart := false }
def FnExactLostInSaid : Prop := fnExactLostInRow.holds Try.pinned (OpenSpec.ofChange fnExactLostInSpec)

/-- ITS FALSE NEIGHBOUR: 'it returns false'. Refute it at one input. -/
def fnExactLostInWrong : ChangeSpec := { name := "fnExactLostIn", fn := fun _ => fun
  | [d1, d2] => { results := [.lit (.bool false)], args := [d1, d2] }
  | _ => none }
def FnExactLostInWrongFalsely : Prop := fnExactLostInRow.holds Try.pinned (OpenSpec.ofChange fnExactLostInWrong)

/-- 'laws.FnExactNeedFor': WHATEVER THE INPUT: true; the input reads as it did. -/
def fnExactNeedForSpec : ChangeSpec := { name := "fnExactNeedFor", fn := fun _ => fun
  | [d1, d2, d3] => { results := [.lit (.bool true)], args := [d1, d2, d3] }
  | _ => none }
def fnExactNeedForRow : OpenClaim := { program := "ytfdgaobdlibfpaa", sum := "e7bf712e678ddf215aa3c1c4c848e2bedcd93c0d82b9323c1fa8fd5e1519dfd7", func := "loop.example/watershares/laws.FnExactNeedFor", spec := "fnExactNeedFor", apart := false }
def FnExactNeedForSaid : Prop := fnExactNeedForRow.holds Try.pinned (OpenSpec.ofChange fnExactNeedForSpec)

/-- ITS FALSE NEIGHBOUR: 'it returns false'. Refute it at one input. -/
def fnExactNeedForWrong : ChangeSpec := { name := "fnExactNeedFor", fn := fun _ => fun
  | [d1, d2, d3] => { results := [.lit (.bool false)], args := [d1, d2, d3] }
  | _ => none }
def FnExactNeedForWrongFalsely : Prop := fnExactNeedForRow.holds Try.pinned (OpenSpec.ofChange fnExactNeedForWrong)

/-- 'laws.FnExactSetGate': WHATEVER THE INPUT: true; the input reads as it did. -/
def fnExactSetGateSpec : ChangeSpec := { name := "fnExactSetGate", fn := fun _ => fun
  | [d1, d2, d3] => { results := [.lit (.bool true)], args := [d1, d2, d3] }
  | _ => none }
def fnExactSetGateRow : OpenClaim := { program := "ytfdgaobdlibfpaa", sum := "e7bf712e678ddf215aa3c1c4c848e2bedcd93c0d82b9323c1fa8fd5e1519dfd7", func := "loop.example/watershares/laws.FnExactSetGate", spec := "fnExactSetGate", apart := false }
def FnExactSetGateSaid : Prop := fnExactSetGateRow.holds Try.pinned (OpenSpec.ofChange fnExactSetGateSpec)

/-- ITS FALSE NEIGHBOUR: 'it returns false'. Refute it at one input. -/
def fnExactSetGateWrong : ChangeSpec := { name := "fnExactSetGate", fn := fun _ => fun
  | [d1, d2, d3] => { results := [.lit (.bool false)], args := [d1, d2, d3] }
  | _ => none }
def FnExactSetGateWrongFalsely : Prop := fnExactSetGateRow.holds Try.pinned (OpenSpec.ofChange fnExactSetGateWrong)

/-- 'laws.FnExactArriveAt': WHATEVER THE INPUT: true; the input reads as it did. -/
def fnExactArriveAtSpec : ChangeSpec := { name := "fnExactArriveAt", fn := fun _ => fun
  | [d1, d2, d3] => { results := [.lit (.bool true)], args := [d1, d2, d3] }
  | _ => none }
def fnExactArriveAtRow : OpenClaim := { program := "ytfdgaobdlibfpaa", sum := "e7bf712e678ddf215aa3c1c4c848e2bedcd93c0d82b9323c1fa8fd5e1519dfd7", func := "loop.example/watershares/laws.FnExactArriveAt", spec := "fnExactArriveAt", apart := false }
def FnExactArriveAtSaid : Prop := fnExactArriveAtRow.holds Try.pinned (OpenSpec.ofChange fnExactArriveAtSpec)

/-- ITS FALSE NEIGHBOUR: 'it returns false'. Refute it at one input. -/
def fnExactArriveAtWrong : ChangeSpec := { name := "fnExactArriveAt", fn := fun _ => fun
  | [d1, d2, d3] => { results := [.lit (.bool false)], args := [d1, d2, d3] }
  | _ => none }
def FnExactArriveAtWrongFalsely : Prop := fnExactArriveAtRow.holds Try.pinned (OpenSpec.ofChange fnExactArriveAtWrong)

/- THE SECOND FORM. 'bulk': how many values and letters a reading holds, each counted each time it is reached (what is shared counts as often as it is met; a slice's spare places count too). A statement '..UptoSaid' is the law's where the arguments, and the package variables that the reading takes, are together of bulk at most 1048576: NARROWER than '..Said'. Prove '..Said' where nothing that the law and all that it calls make is longer than what came in: it says more and counts as full. Else prove '..UptoSaid'. A law counts once. -/
mutual
def uptoBulk {H : Type} : DataW H → Nat
  | .lit (.string bytes) => bytes.length + 1
  | .lit _ => 1
  | .nil => 1
  | .ptr d => uptoBulk d + 1
  | .slice elems spare => uptoBulkAll elems + uptoBulkAll spare + 1
  | .agg parts => uptoBulkAll parts + 1
  | .iface _ d => uptoBulk d + 1
  | .map entries => uptoBulkEntries entries + 1
  | .held _ => 1
def uptoBulkAll {H : Type} : List (DataW H) → Nat
  | [] => 0
  | d :: r => uptoBulk d + uptoBulkAll r
def uptoBulkEntries {H : Type} : List (Lit × DataW H) → Nat
  | [] => 0
  | x :: r => uptoBulkEntry x + uptoBulkEntries r
def uptoBulkEntry {H : Type} : Lit × DataW H → Nat
  | (.string bytes, d) => bytes.length + uptoBulk d + 1
  | (_, d) => uptoBulk d + 1
 end
def uptoSmall : (H : Type) → List (DataW H) → Bool := fun _ ds => decide (uptoBulkAll ds ≤ 1048576)
def OpenSpec.upto (s : _root_.Go.ChangeSpec) : _root_.Go.OpenSpec := { _root_.Go.OpenSpec.ofChange s with cond := some uptoSmall }

/-- 'laws.FnExactValidNodes', WHERE WHAT IT READS IS OF BULK AT MOST 1048576: true; the input reads as it did. -/
def fnExactValidNodesUptoRow : OpenClaim := { program := "ytfdgaobdlibfpaa", sum := "e7bf712e678ddf215aa3c1c4c848e2bedcd93c0d82b9323c1fa8fd5e1519dfd7", func := "loop.example/watershares/laws.FnExactValidNodes", spec := "fnExactValidNodes", apart := false, narrowed := true }
def FnExactValidNodesUptoSaid : Prop := fnExactValidNodesUptoRow.holds Try.pinned (OpenSpec.upto fnExactValidNodesSpec)

/-- 'laws.FnExactKidsOf', WHERE WHAT IT READS IS OF BULK AT MOST 1048576: true; the input reads as it did. -/
def fnExactKidsOfUptoRow : OpenClaim := { program := "ytfdgaobdlibfpaa", sum := "e7bf712e678ddf215aa3c1c4c848e2bedcd93c0d82b9323c1fa8fd5e1519dfd7", func := "loop.example/watershares/laws.FnExactKidsOf", spec := "fnExactKidsOf", apart := false, narrowed := true }
def FnExactKidsOfUptoSaid : Prop := fnExactKidsOfUptoRow.holds Try.pinned (OpenSpec.upto fnExactKidsOfSpec)

/-- 'laws.FnExactPathTo', WHERE WHAT IT READS IS OF BULK AT MOST 1048576: true; the input reads as it did. -/
def fnExactPathToUptoRow : OpenClaim := { program := "ytfdgaobdlibfpaa", sum := "e7bf712e678ddf215aa3c1c4c848e2bedcd93c0d82b9323c1fa8fd5e1519dfd7", func := "loop.example/watershares/laws.FnExactPathTo", spec := "fnExactPathTo", apart := false, narrowed := true }
def FnExactPathToUptoSaid : Prop := fnExactPathToUptoRow.holds Try.pinned (OpenSpec.upto fnExactPathToSpec)

/-- 'laws.FnExactDelayTo', WHERE WHAT IT READS IS OF BULK AT MOST 1048576: true; the input reads as it did. -/
def fnExactDelayToUptoRow : OpenClaim := { program := "ytfdgaobdlibfpaa", sum := "e7bf712e678ddf215aa3c1c4c848e2bedcd93c0d82b9323c1fa8fd5e1519dfd7", func := "loop.example/watershares/laws.FnExactDelayTo", spec := "fnExactDelayTo", apart := false, narrowed := true }
def FnExactDelayToUptoSaid : Prop := fnExactDelayToUptoRow.holds Try.pinned (OpenSpec.upto fnExactDelayToSpec)

/-- 'laws.FnExactLeavesOf', WHERE WHAT IT READS IS OF BULK AT MOST 1048576: true; the input reads as it did. -/
def fnExactLeavesOfUptoRow : OpenClaim := { program := "ytfdgaobdlibfpaa", sum := "e7bf712e678ddf215aa3c1c4c848e2bedcd93c0d82b9323c1fa8fd5e1519dfd7", func := "loop.example/watershares/laws.FnExactLeavesOf", spec := "fnExactLeavesOf", apart := false, narrowed := true }
def FnExactLeavesOfUptoSaid : Prop := fnExactLeavesOfUptoRow.holds Try.pinned (OpenSpec.upto fnExactLeavesOfSpec)

/-- 'laws.FnExactFlowsOf', WHERE WHAT IT READS IS OF BULK AT MOST 1048576: true; the input reads as it did. -/
def fnExactFlowsOfUptoRow : OpenClaim := { program := "ytfdgaobdlibfpaa", sum := "e7bf712e678ddf215aa3c1c4c848e2bedcd93c0d82b9323c1fa8fd5e1519dfd7", func := "loop.example/watershares/laws.FnExactFlowsOf", spec := "fnExactFlowsOf", apart := false, narrowed := true }
def FnExactFlowsOfUptoSaid : Prop := fnExactFlowsOfUptoRow.holds Try.pinned (OpenSpec.upto fnExactFlowsOfSpec)

/-- 'laws.FnExactPassedOf', WHERE WHAT IT READS IS OF BULK AT MOST 1048576: true; the input reads as it did. -/
def fnExactPassedOfUptoRow : OpenClaim := { program := "ytfdgaobdlibfpaa", sum := "e7bf712e678ddf215aa3c1c4c848e2bedcd93c0d82b9323c1fa8fd5e1519dfd7", func := "loop.example/watershares/laws.FnExactPassedOf", spec := "fnExactPassedOf", apart := false, narrowed := true }
def FnExactPassedOfUptoSaid : Prop := fnExactPassedOfUptoRow.holds Try.pinned (OpenSpec.upto fnExactPassedOfSpec)

/-- 'laws.FnExactLostIn', WHERE WHAT IT READS IS OF BULK AT MOST 1048576: true; the input reads as it did. -/
def fnExactLostInUptoRow : OpenClaim := { program := "ytfdgaobdlibfpaa", sum := "e7bf712e678ddf215aa3c1c4c848e2bedcd93c0d82b9323c1fa8fd5e1519dfd7", func := "loop.example/watershares/laws.FnExactLostIn", spec := "fnExactLostIn", apart := false, narrowed := true }
def FnExactLostInUptoSaid : Prop := fnExactLostInUptoRow.holds Try.pinned (OpenSpec.upto fnExactLostInSpec)

/-- 'laws.FnExactNeedFor', WHERE WHAT IT READS IS OF BULK AT MOST 1048576: true; the input reads as it did. -/
def fnExactNeedForUptoRow : OpenClaim := { program := "ytfdgaobdlibfpaa", sum := "e7bf712e678ddf215aa3c1c4c848e2bedcd93c0d82b9323c1fa8fd5e1519dfd7", func := "loop.example/watershares/laws.FnExactNeedFor", spec := "fnExactNeedFor", apart := false, narrowed := true }
def FnExactNeedForUptoSaid : Prop := fnExactNeedForUptoRow.holds Try.pinned (OpenSpec.upto fnExactNeedForSpec)

/-- 'laws.FnExactSetGate', WHERE WHAT IT READS IS OF BULK AT MOST 1048576: true; the input reads as it did. -/
def fnExactSetGateUptoRow : OpenClaim := { program := "ytfdgaobdlibfpaa", sum := "e7bf712e678ddf215aa3c1c4c848e2bedcd93c0d82b9323c1fa8fd5e1519dfd7", func := "loop.example/watershares/laws.FnExactSetGate", spec := "fnExactSetGate", apart := false, narrowed := true }
def FnExactSetGateUptoSaid : Prop := fnExactSetGateUptoRow.holds Try.pinned (OpenSpec.upto fnExactSetGateSpec)

/-- 'laws.FnExactArriveAt', WHERE WHAT IT READS IS OF BULK AT MOST 1048576: true; the input reads as it did. -/
def fnExactArriveAtUptoRow : OpenClaim := { program := "ytfdgaobdlibfpaa", sum := "e7bf712e678ddf215aa3c1c4c848e2bedcd93c0d82b9323c1fa8fd5e1519dfd7", func := "loop.example/watershares/laws.FnExactArriveAt", spec := "fnExactArriveAt", apart := false, narrowed := true }
def FnExactArriveAtUptoSaid : Prop := fnExactArriveAtUptoRow.holds Try.pinned (OpenSpec.upto fnExactArriveAtSpec)

end Rows
end Go.Proofs.Ytfdgaobdlibfpaa
