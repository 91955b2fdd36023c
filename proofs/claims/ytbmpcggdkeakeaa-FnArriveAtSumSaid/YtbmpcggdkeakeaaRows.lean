/-
  No cell of these rows narrows 'for every input' (looked for: loops, veiled, ifaces, maps, wideKeys, modest, calm, conditions, laid).
  DERIVED. THE GIVEN ROWS OF THIS SEAT. 15 by the template 'for every input the law returns true; each argument reads behind the call as it read before'; 0 by the template 'total and deterministic' (their statements: YtbmpcggdkeakeaaTotals.lean).
  GIVEN WITH THE SEED: the statements are not yours to turn. If you find one false, say at which input.
  Laid BY PROGRAM, IN A SANDBOX (cutbox-rows.mjs): the forced cells as the released guide's own fill.sh prints them over the translation 8ef329e6c16873c3… (all of the seat's roots in one cut). By AI agents, Wed Nov 11 2026. No macro, syntax, notation, axiom, sorry.
-/
import Derived.Test.YtbmpcggdkeakeaaChecked
import GoSem.Claim
import GoSem.ClaimJoined
import GoSem.ClaimMapViews
import Derived.JoinedTies
import Derived.KernelRfl
namespace Go.Proofs.Ytbmpcggdkeakeaa
/- THE CELL 'sum', in the pinned program and in every row, IS THE sha256 OF THE DUMP (.gsa) THAT YtbmpcggdkeakeaaProg.lean LOADS. Nothing in Lean hashes anything: it is a label: what it is worth is what the hold of that sum in a sandbox is worth. -/
noncomputable def Try.pinned : Pinned := { name := "ytbmpcggdkeakeaa", sum := "8ef329e6c16873c3d576cc1f4d00dc82382f0ad5fe9b5efe509112b95278a926", checked := Try.checked }
namespace Rows
def none {H : Type} : Left H := { results := [], args := [] }

/-- 'laws.FnValidNodes': WHATEVER THE INPUT: true; the input reads as it did. -/
def fnValidNodesSpec : ChangeSpec := { name := "fnValidNodes", fn := fun _ => fun
  | [d] => { results := [.lit (.bool true)], args := [d] }
  | _ => none }
def fnValidNodesRow : OpenClaim := { program := "ytbmpcggdkeakeaa", sum := "8ef329e6c16873c3d576cc1f4d00dc82382f0ad5fe9b5efe509112b95278a926", func := "loop.example/watershares/laws.FnValidNodes", spec := "fnValidNodes", apart := false }
def FnValidNodesSaid : Prop := fnValidNodesRow.holds Try.pinned (OpenSpec.ofChange fnValidNodesSpec)

/-- ITS FALSE NEIGHBOUR: 'it returns false'. Refute it at one input. -/
def fnValidNodesWrong : ChangeSpec := { name := "fnValidNodes", fn := fun _ => fun
  | [d] => { results := [.lit (.bool false)], args := [d] }
  | _ => none }
def FnValidNodesWrongFalsely : Prop := fnValidNodesRow.holds Try.pinned (OpenSpec.ofChange fnValidNodesWrong)

/-- 'laws.FnKidsOf': WHATEVER THE INPUT: true; the input reads as it did. -/
def fnKidsOfSpec : ChangeSpec := { name := "fnKidsOf", fn := fun _ => fun
  | [d] => { results := [.lit (.bool true)], args := [d] }
  | _ => none }
def fnKidsOfRow : OpenClaim := { program := "ytbmpcggdkeakeaa", sum := "8ef329e6c16873c3d576cc1f4d00dc82382f0ad5fe9b5efe509112b95278a926", func := "loop.example/watershares/laws.FnKidsOf", spec := "fnKidsOf", apart := false }
def FnKidsOfSaid : Prop := fnKidsOfRow.holds Try.pinned (OpenSpec.ofChange fnKidsOfSpec)

/-- ITS FALSE NEIGHBOUR: 'it returns false'. Refute it at one input. -/
def fnKidsOfWrong : ChangeSpec := { name := "fnKidsOf", fn := fun _ => fun
  | [d] => { results := [.lit (.bool false)], args := [d] }
  | _ => none }
def FnKidsOfWrongFalsely : Prop := fnKidsOfRow.holds Try.pinned (OpenSpec.ofChange fnKidsOfWrong)

/-- 'laws.FnPathTo': WHATEVER THE INPUT: true; the input reads as it did. -/
def fnPathToSpec : ChangeSpec := { name := "fnPathTo", fn := fun _ => fun
  | [d] => { results := [.lit (.bool true)], args := [d] }
  | _ => none }
def fnPathToRow : OpenClaim := { program := "ytbmpcggdkeakeaa", sum := "8ef329e6c16873c3d576cc1f4d00dc82382f0ad5fe9b5efe509112b95278a926", func := "loop.example/watershares/laws.FnPathTo", spec := "fnPathTo", apart := false }
def FnPathToSaid : Prop := fnPathToRow.holds Try.pinned (OpenSpec.ofChange fnPathToSpec)

/-- ITS FALSE NEIGHBOUR: 'it returns false'. Refute it at one input. -/
def fnPathToWrong : ChangeSpec := { name := "fnPathTo", fn := fun _ => fun
  | [d] => { results := [.lit (.bool false)], args := [d] }
  | _ => none }
def FnPathToWrongFalsely : Prop := fnPathToRow.holds Try.pinned (OpenSpec.ofChange fnPathToWrong)

/-- 'laws.FnDelayTo': WHATEVER THE INPUT: true; the input reads as it did. -/
def fnDelayToSpec : ChangeSpec := { name := "fnDelayTo", fn := fun _ => fun
  | [d] => { results := [.lit (.bool true)], args := [d] }
  | _ => none }
def fnDelayToRow : OpenClaim := { program := "ytbmpcggdkeakeaa", sum := "8ef329e6c16873c3d576cc1f4d00dc82382f0ad5fe9b5efe509112b95278a926", func := "loop.example/watershares/laws.FnDelayTo", spec := "fnDelayTo", apart := false }
def FnDelayToSaid : Prop := fnDelayToRow.holds Try.pinned (OpenSpec.ofChange fnDelayToSpec)

/-- ITS FALSE NEIGHBOUR: 'it returns false'. Refute it at one input. -/
def fnDelayToWrong : ChangeSpec := { name := "fnDelayTo", fn := fun _ => fun
  | [d] => { results := [.lit (.bool false)], args := [d] }
  | _ => none }
def FnDelayToWrongFalsely : Prop := fnDelayToRow.holds Try.pinned (OpenSpec.ofChange fnDelayToWrong)

/-- 'laws.FnLeavesOf': WHATEVER THE INPUT: true; the input reads as it did. -/
def fnLeavesOfSpec : ChangeSpec := { name := "fnLeavesOf", fn := fun _ => fun
  | [d] => { results := [.lit (.bool true)], args := [d] }
  | _ => none }
def fnLeavesOfRow : OpenClaim := { program := "ytbmpcggdkeakeaa", sum := "8ef329e6c16873c3d576cc1f4d00dc82382f0ad5fe9b5efe509112b95278a926", func := "loop.example/watershares/laws.FnLeavesOf", spec := "fnLeavesOf", apart := false }
def FnLeavesOfSaid : Prop := fnLeavesOfRow.holds Try.pinned (OpenSpec.ofChange fnLeavesOfSpec)

/-- ITS FALSE NEIGHBOUR: 'it returns false'. Refute it at one input. -/
def fnLeavesOfWrong : ChangeSpec := { name := "fnLeavesOf", fn := fun _ => fun
  | [d] => { results := [.lit (.bool false)], args := [d] }
  | _ => none }
def FnLeavesOfWrongFalsely : Prop := fnLeavesOfRow.holds Try.pinned (OpenSpec.ofChange fnLeavesOfWrong)

/-- 'laws.FnFlowsOf': WHATEVER THE INPUT: true; the input reads as it did. -/
def fnFlowsOfSpec : ChangeSpec := { name := "fnFlowsOf", fn := fun _ => fun
  | [d] => { results := [.lit (.bool true)], args := [d] }
  | _ => none }
def fnFlowsOfRow : OpenClaim := { program := "ytbmpcggdkeakeaa", sum := "8ef329e6c16873c3d576cc1f4d00dc82382f0ad5fe9b5efe509112b95278a926", func := "loop.example/watershares/laws.FnFlowsOf", spec := "fnFlowsOf", apart := false }
def FnFlowsOfSaid : Prop := fnFlowsOfRow.holds Try.pinned (OpenSpec.ofChange fnFlowsOfSpec)

/-- ITS FALSE NEIGHBOUR: 'it returns false'. Refute it at one input. -/
def fnFlowsOfWrong : ChangeSpec := { name := "fnFlowsOf", fn := fun _ => fun
  | [d] => { results := [.lit (.bool false)], args := [d] }
  | _ => none }
def FnFlowsOfWrongFalsely : Prop := fnFlowsOfRow.holds Try.pinned (OpenSpec.ofChange fnFlowsOfWrong)

/-- 'laws.FnFlowsOfMore': WHATEVER THE INPUT: true; the input reads as it did. -/
def fnFlowsOfMoreSpec : ChangeSpec := { name := "fnFlowsOfMore", fn := fun _ => fun
  | [d] => { results := [.lit (.bool true)], args := [d] }
  | _ => none }
def fnFlowsOfMoreRow : OpenClaim := { program := "ytbmpcggdkeakeaa", sum := "8ef329e6c16873c3d576cc1f4d00dc82382f0ad5fe9b5efe509112b95278a926", func := "loop.example/watershares/laws.FnFlowsOfMore", spec := "fnFlowsOfMore", apart := false }
def FnFlowsOfMoreSaid : Prop := fnFlowsOfMoreRow.holds Try.pinned (OpenSpec.ofChange fnFlowsOfMoreSpec)

/-- ITS FALSE NEIGHBOUR: 'it returns false'. Refute it at one input. -/
def fnFlowsOfMoreWrong : ChangeSpec := { name := "fnFlowsOfMore", fn := fun _ => fun
  | [d] => { results := [.lit (.bool false)], args := [d] }
  | _ => none }
def FnFlowsOfMoreWrongFalsely : Prop := fnFlowsOfMoreRow.holds Try.pinned (OpenSpec.ofChange fnFlowsOfMoreWrong)

/-- 'laws.FnLostIn': WHATEVER THE INPUT: true; the input reads as it did. -/
def fnLostInSpec : ChangeSpec := { name := "fnLostIn", fn := fun _ => fun
  | [d] => { results := [.lit (.bool true)], args := [d] }
  | _ => none }
def fnLostInRow : OpenClaim := { program := "ytbmpcggdkeakeaa", sum := "8ef329e6c16873c3d576cc1f4d00dc82382f0ad5fe9b5efe509112b95278a926", func := "loop.example/watershares/laws.FnLostIn", spec := "fnLostIn", apart := false }
def FnLostInSaid : Prop := fnLostInRow.holds Try.pinned (OpenSpec.ofChange fnLostInSpec)

/-- ITS FALSE NEIGHBOUR: 'it returns false'. Refute it at one input. -/
def fnLostInWrong : ChangeSpec := { name := "fnLostIn", fn := fun _ => fun
  | [d] => { results := [.lit (.bool false)], args := [d] }
  | _ => none }
def FnLostInWrongFalsely : Prop := fnLostInRow.holds Try.pinned (OpenSpec.ofChange fnLostInWrong)

/-- 'laws.FnPassedOf': WHATEVER THE INPUT: true; the input reads as it did. -/
def fnPassedOfSpec : ChangeSpec := { name := "fnPassedOf", fn := fun _ => fun
  | [d] => { results := [.lit (.bool true)], args := [d] }
  | _ => none }
def fnPassedOfRow : OpenClaim := { program := "ytbmpcggdkeakeaa", sum := "8ef329e6c16873c3d576cc1f4d00dc82382f0ad5fe9b5efe509112b95278a926", func := "loop.example/watershares/laws.FnPassedOf", spec := "fnPassedOf", apart := false }
def FnPassedOfSaid : Prop := fnPassedOfRow.holds Try.pinned (OpenSpec.ofChange fnPassedOfSpec)

/-- ITS FALSE NEIGHBOUR: 'it returns false'. Refute it at one input. -/
def fnPassedOfWrong : ChangeSpec := { name := "fnPassedOf", fn := fun _ => fun
  | [d] => { results := [.lit (.bool false)], args := [d] }
  | _ => none }
def FnPassedOfWrongFalsely : Prop := fnPassedOfRow.holds Try.pinned (OpenSpec.ofChange fnPassedOfWrong)

/-- 'laws.FnNeedFor': WHATEVER THE INPUT: true; the input reads as it did. -/
def fnNeedForSpec : ChangeSpec := { name := "fnNeedFor", fn := fun _ => fun
  | [d] => { results := [.lit (.bool true)], args := [d] }
  | _ => none }
def fnNeedForRow : OpenClaim := { program := "ytbmpcggdkeakeaa", sum := "8ef329e6c16873c3d576cc1f4d00dc82382f0ad5fe9b5efe509112b95278a926", func := "loop.example/watershares/laws.FnNeedFor", spec := "fnNeedFor", apart := false }
def FnNeedForSaid : Prop := fnNeedForRow.holds Try.pinned (OpenSpec.ofChange fnNeedForSpec)

/-- ITS FALSE NEIGHBOUR: 'it returns false'. Refute it at one input. -/
def fnNeedForWrong : ChangeSpec := { name := "fnNeedFor", fn := fun _ => fun
  | [d] => { results := [.lit (.bool false)], args := [d] }
  | _ => none }
def FnNeedForWrongFalsely : Prop := fnNeedForRow.holds Try.pinned (OpenSpec.ofChange fnNeedForWrong)

/-- 'laws.FnNeedForNone': WHATEVER THE INPUT: true; the input reads as it did. -/
def fnNeedForNoneSpec : ChangeSpec := { name := "fnNeedForNone", fn := fun _ => fun
  | [d] => { results := [.lit (.bool true)], args := [d] }
  | _ => none }
def fnNeedForNoneRow : OpenClaim := { program := "ytbmpcggdkeakeaa", sum := "8ef329e6c16873c3d576cc1f4d00dc82382f0ad5fe9b5efe509112b95278a926", func := "loop.example/watershares/laws.FnNeedForNone", spec := "fnNeedForNone", apart := false }
def FnNeedForNoneSaid : Prop := fnNeedForNoneRow.holds Try.pinned (OpenSpec.ofChange fnNeedForNoneSpec)

/-- ITS FALSE NEIGHBOUR: 'it returns false'. Refute it at one input. -/
def fnNeedForNoneWrong : ChangeSpec := { name := "fnNeedForNone", fn := fun _ => fun
  | [d] => { results := [.lit (.bool false)], args := [d] }
  | _ => none }
def FnNeedForNoneWrongFalsely : Prop := fnNeedForNoneRow.holds Try.pinned (OpenSpec.ofChange fnNeedForNoneWrong)

/-- 'laws.FnSetGate': WHATEVER THE INPUT: true; the input reads as it did. -/
def fnSetGateSpec : ChangeSpec := { name := "fnSetGate", fn := fun _ => fun
  | [d] => { results := [.lit (.bool true)], args := [d] }
  | _ => none }
def fnSetGateRow : OpenClaim := { program := "ytbmpcggdkeakeaa", sum := "8ef329e6c16873c3d576cc1f4d00dc82382f0ad5fe9b5efe509112b95278a926", func := "loop.example/watershares/laws.FnSetGate", spec := "fnSetGate", apart := false }
def FnSetGateSaid : Prop := fnSetGateRow.holds Try.pinned (OpenSpec.ofChange fnSetGateSpec)

/-- ITS FALSE NEIGHBOUR: 'it returns false'. Refute it at one input. -/
def fnSetGateWrong : ChangeSpec := { name := "fnSetGate", fn := fun _ => fun
  | [d] => { results := [.lit (.bool false)], args := [d] }
  | _ => none }
def FnSetGateWrongFalsely : Prop := fnSetGateRow.holds Try.pinned (OpenSpec.ofChange fnSetGateWrong)

/-- 'laws.FnSetGateOthers': WHATEVER THE INPUT: true; the input reads as it did. -/
def fnSetGateOthersSpec : ChangeSpec := { name := "fnSetGateOthers", fn := fun _ => fun
  | [d] => { results := [.lit (.bool true)], args := [d] }
  | _ => none }
def fnSetGateOthersRow : OpenClaim := { program := "ytbmpcggdkeakeaa", sum := "8ef329e6c16873c3d576cc1f4d00dc82382f0ad5fe9b5efe509112b95278a926", func := "loop.example/watershares/laws.FnSetGateOthers", spec := "fnSetGateOthers", apart := false }
def FnSetGateOthersSaid : Prop := fnSetGateOthersRow.holds Try.pinned (OpenSpec.ofChange fnSetGateOthersSpec)

/-- ITS FALSE NEIGHBOUR: 'it returns false'. Refute it at one input. -/
def fnSetGateOthersWrong : ChangeSpec := { name := "fnSetGateOthers", fn := fun _ => fun
  | [d] => { results := [.lit (.bool false)], args := [d] }
  | _ => none }
def FnSetGateOthersWrongFalsely : Prop := fnSetGateOthersRow.holds Try.pinned (OpenSpec.ofChange fnSetGateOthersWrong)

/-- 'laws.FnArriveAt': WHATEVER THE INPUT: true; the input reads as it did. -/
def fnArriveAtSpec : ChangeSpec := { name := "fnArriveAt", fn := fun _ => fun
  | [d] => { results := [.lit (.bool true)], args := [d] }
  | _ => none }
def fnArriveAtRow : OpenClaim := { program := "ytbmpcggdkeakeaa", sum := "8ef329e6c16873c3d576cc1f4d00dc82382f0ad5fe9b5efe509112b95278a926", func := "loop.example/watershares/laws.FnArriveAt", spec := "fnArriveAt", apart := false }
def FnArriveAtSaid : Prop := fnArriveAtRow.holds Try.pinned (OpenSpec.ofChange fnArriveAtSpec)

/-- ITS FALSE NEIGHBOUR: 'it returns false'. Refute it at one input. -/
def fnArriveAtWrong : ChangeSpec := { name := "fnArriveAt", fn := fun _ => fun
  | [d] => { results := [.lit (.bool false)], args := [d] }
  | _ => none }
def FnArriveAtWrongFalsely : Prop := fnArriveAtRow.holds Try.pinned (OpenSpec.ofChange fnArriveAtWrong)

/-- 'laws.FnArriveAtSum': WHATEVER THE INPUT: true; the input reads as it did. -/
def fnArriveAtSumSpec : ChangeSpec := { name := "fnArriveAtSum", fn := fun _ => fun
  | [d] => { results := [.lit (.bool true)], args := [d] }
  | _ => none }
def fnArriveAtSumRow : OpenClaim := { program := "ytbmpcggdkeakeaa", sum := "8ef329e6c16873c3d576cc1f4d00dc82382f0ad5fe9b5efe509112b95278a926", func := "loop.example/watershares/laws.FnArriveAtSum", spec := "fnArriveAtSum", apart := false }
def FnArriveAtSumSaid : Prop := fnArriveAtSumRow.holds Try.pinned (OpenSpec.ofChange fnArriveAtSumSpec)

/-- ITS FALSE NEIGHBOUR: 'it returns false'. Refute it at one input. -/
def fnArriveAtSumWrong : ChangeSpec := { name := "fnArriveAtSum", fn := fun _ => fun
  | [d] => { results := [.lit (.bool false)], args := [d] }
  | _ => none }
def FnArriveAtSumWrongFalsely : Prop := fnArriveAtSumRow.holds Try.pinned (OpenSpec.ofChange fnArriveAtSumWrong)

/- THE SECOND FORM. 'bulk': how many values and letters a reading holds, each counted each time it is reached (what is shared counts as often as it is met; a slice's spare places count too). A statement '..UptoSaid' is the law's where the arguments, and the package variables that the reading takes, are together of bulk at most 1048576: NARROWER than '..Said'. Prove '..Said' where nothing that the law and all that it calls make is longer than what came in: it says more and counts as full. Else prove '..UptoSaid'. A law counts once. -/
mutual
def uptoBulk {H : Type} : DataW H → Nat
  | .lit (.string bytes) => bytes.length + 1
  | .lit _ => 1
  | .nil => 1
  | .ptr d => uptoBulk d + 1
  | .slice elems spare => uptoBulkAll elems + uptoBulkAll spare + 1
  | .agg parts => uptoBulkAll parts + 1
  | .iface _ d => uptoBulk d + 1
  | .map entries => uptoBulkEntries entries + 1
  | .held _ => 1
def uptoBulkAll {H : Type} : List (DataW H) → Nat
  | [] => 0
  | d :: r => uptoBulk d + uptoBulkAll r
def uptoBulkEntries {H : Type} : List (Lit × DataW H) → Nat
  | [] => 0
  | x :: r => uptoBulkEntry x + uptoBulkEntries r
def uptoBulkEntry {H : Type} : Lit × DataW H → Nat
  | (.string bytes, d) => bytes.length + uptoBulk d + 1
  | (_, d) => uptoBulk d + 1
 end
def uptoSmall : (H : Type) → List (DataW H) → Bool := fun _ ds => decide (uptoBulkAll ds ≤ 1048576)
def OpenSpec.upto (s : _root_.Go.ChangeSpec) : _root_.Go.OpenSpec := { _root_.Go.OpenSpec.ofChange s with cond := some uptoSmall }

/-- 'laws.FnValidNodes', WHERE WHAT IT READS IS OF BULK AT MOST 1048576: true; the input reads as it did. -/
def fnValidNodesUptoRow : OpenClaim := { program := "ytbmpcggdkeakeaa", sum := "8ef329e6c16873c3d576cc1f4d00dc82382f0ad5fe9b5efe509112b95278a926", func := "loop.example/watershares/laws.FnValidNodes", spec := "fnValidNodes", apart := false, narrowed := true }
def FnValidNodesUptoSaid : Prop := fnValidNodesUptoRow.holds Try.pinned (OpenSpec.upto fnValidNodesSpec)

/-- 'laws.FnKidsOf', WHERE WHAT IT READS IS OF BULK AT MOST 1048576: true; the input reads as it did. -/
def fnKidsOfUptoRow : OpenClaim := { program := "ytbmpcggdkeakeaa", sum := "8ef329e6c16873c3d576cc1f4d00dc82382f0ad5fe9b5efe509112b95278a926", func := "loop.example/watershares/laws.FnKidsOf", spec := "fnKidsOf", apart := false, narrowed := true }
def FnKidsOfUptoSaid : Prop := fnKidsOfUptoRow.holds Try.pinned (OpenSpec.upto fnKidsOfSpec)

/-- 'laws.FnPathTo', WHERE WHAT IT READS IS OF BULK AT MOST 1048576: true; the input reads as it did. -/
def fnPathToUptoRow : OpenClaim := { program := "ytbmpcggdkeakeaa", sum := "8ef329e6c16873c3d576cc1f4d00dc82382f0ad5fe9b5efe509112b95278a926", func := "loop.example/watershares/laws.FnPathTo", spec := "fnPathTo", apart := false, narrowed := true }
def FnPathToUptoSaid : Prop := fnPathToUptoRow.holds Try.pinned (OpenSpec.upto fnPathToSpec)

/-- 'laws.FnDelayTo', WHERE WHAT IT READS IS OF BULK AT MOST 1048576: true; the input reads as it did. -/
def fnDelayToUptoRow : OpenClaim := { program := "ytbmpcggdkeakeaa", sum := "8ef329e6c16873c3d576cc1f4d00dc82382f0ad5fe9b5efe509112b95278a926", func := "loop.example/watershares/laws.FnDelayTo", spec := "fnDelayTo", apart := false, narrowed := true }
def FnDelayToUptoSaid : Prop := fnDelayToUptoRow.holds Try.pinned (OpenSpec.upto fnDelayToSpec)

/-- 'laws.FnLeavesOf', WHERE WHAT IT READS IS OF BULK AT MOST 1048576: true; the input reads as it did. -/
def fnLeavesOfUptoRow : OpenClaim := { program := "ytbmpcggdkeakeaa", sum := "8ef329e6c16873c3d576cc1f4d00dc82382f0ad5fe9b5efe509112b95278a926", func := "loop.example/watershares/laws.FnLeavesOf", spec := "fnLeavesOf", apart := false, narrowed := true }
def FnLeavesOfUptoSaid : Prop := fnLeavesOfUptoRow.holds Try.pinned (OpenSpec.upto fnLeavesOfSpec)

/-- 'laws.FnFlowsOf', WHERE WHAT IT READS IS OF BULK AT MOST 1048576: true; the input reads as it did. -/
def fnFlowsOfUptoRow : OpenClaim := { program := "ytbmpcggdkeakeaa", sum := "8ef329e6c16873c3d576cc1f4d00dc82382f0ad5fe9b5efe509112b95278a926", func := "loop.example/watershares/laws.FnFlowsOf", spec := "fnFlowsOf", apart := false, narrowed := true }
def FnFlowsOfUptoSaid : Prop := fnFlowsOfUptoRow.holds Try.pinned (OpenSpec.upto fnFlowsOfSpec)

/-- 'laws.FnFlowsOfMore', WHERE WHAT IT READS IS OF BULK AT MOST 1048576: true; the input reads as it did. -/
def fnFlowsOfMoreUptoRow : OpenClaim := { program := "ytbmpcggdkeakeaa", sum := "8ef329e6c16873c3d576cc1f4d00dc82382f0ad5fe9b5efe509112b95278a926", func := "loop.example/watershares/laws.FnFlowsOfMore", spec := "fnFlowsOfMore", apart := false, narrowed := true }
def FnFlowsOfMoreUptoSaid : Prop := fnFlowsOfMoreUptoRow.holds Try.pinned (OpenSpec.upto fnFlowsOfMoreSpec)

/-- 'laws.FnLostIn', WHERE WHAT IT READS IS OF BULK AT MOST 1048576: true; the input reads as it did. -/
def fnLostInUptoRow : OpenClaim := { program := "ytbmpcggdkeakeaa", sum := "8ef329e6c16873c3d576cc1f4d00dc82382f0ad5fe9b5efe509112b95278a926", func := "loop.example/watershares/laws.FnLostIn", spec := "fnLostIn", apart := false, narrowed := true }
def FnLostInUptoSaid : Prop := fnLostInUptoRow.holds Try.pinned (OpenSpec.upto fnLostInSpec)

/-- 'laws.FnPassedOf', WHERE WHAT IT READS IS OF BULK AT MOST 1048576: true; the input reads as it did. -/
def fnPassedOfUptoRow : OpenClaim := { program := "ytbmpcggdkeakeaa", sum := "8ef329e6c16873c3d576cc1f4d00dc82382f0ad5fe9b5efe509112b95278a926", func := "loop.example/watershares/laws.FnPassedOf", spec := "fnPassedOf", apart := false, narrowed := true }
def FnPassedOfUptoSaid : Prop := fnPassedOfUptoRow.holds Try.pinned (OpenSpec.upto fnPassedOfSpec)

/-- 'laws.FnNeedFor', WHERE WHAT IT READS IS OF BULK AT MOST 1048576: true; the input reads as it did. -/
def fnNeedForUptoRow : OpenClaim := { program := "ytbmpcggdkeakeaa", sum := "8ef329e6c16873c3d576cc1f4d00dc82382f0ad5fe9b5efe509112b95278a926", func := "loop.example/watershares/laws.FnNeedFor", spec := "fnNeedFor", apart := false, narrowed := true }
def FnNeedForUptoSaid : Prop := fnNeedForUptoRow.holds Try.pinned (OpenSpec.upto fnNeedForSpec)

/-- 'laws.FnNeedForNone', WHERE WHAT IT READS IS OF BULK AT MOST 1048576: true; the input reads as it did. -/
def fnNeedForNoneUptoRow : OpenClaim := { program := "ytbmpcggdkeakeaa", sum := "8ef329e6c16873c3d576cc1f4d00dc82382f0ad5fe9b5efe509112b95278a926", func := "loop.example/watershares/laws.FnNeedForNone", spec := "fnNeedForNone", apart := false, narrowed := true }
def FnNeedForNoneUptoSaid : Prop := fnNeedForNoneUptoRow.holds Try.pinned (OpenSpec.upto fnNeedForNoneSpec)

/-- 'laws.FnSetGate', WHERE WHAT IT READS IS OF BULK AT MOST 1048576: true; the input reads as it did. -/
def fnSetGateUptoRow : OpenClaim := { program := "ytbmpcggdkeakeaa", sum := "8ef329e6c16873c3d576cc1f4d00dc82382f0ad5fe9b5efe509112b95278a926", func := "loop.example/watershares/laws.FnSetGate", spec := "fnSetGate", apart := false, narrowed := true }
def FnSetGateUptoSaid : Prop := fnSetGateUptoRow.holds Try.pinned (OpenSpec.upto fnSetGateSpec)

/-- 'laws.FnSetGateOthers', WHERE WHAT IT READS IS OF BULK AT MOST 1048576: true; the input reads as it did. -/
def fnSetGateOthersUptoRow : OpenClaim := { program := "ytbmpcggdkeakeaa", sum := "8ef329e6c16873c3d576cc1f4d00dc82382f0ad5fe9b5efe509112b95278a926", func := "loop.example/watershares/laws.FnSetGateOthers", spec := "fnSetGateOthers", apart := false, narrowed := true }
def FnSetGateOthersUptoSaid : Prop := fnSetGateOthersUptoRow.holds Try.pinned (OpenSpec.upto fnSetGateOthersSpec)

/-- 'laws.FnArriveAt', WHERE WHAT IT READS IS OF BULK AT MOST 1048576: true; the input reads as it did. -/
def fnArriveAtUptoRow : OpenClaim := { program := "ytbmpcggdkeakeaa", sum := "8ef329e6c16873c3d576cc1f4d00dc82382f0ad5fe9b5efe509112b95278a926", func := "loop.example/watershares/laws.FnArriveAt", spec := "fnArriveAt", apart := false, narrowed := true }
def FnArriveAtUptoSaid : Prop := fnArriveAtUptoRow.holds Try.pinned (OpenSpec.upto fnArriveAtSpec)

/-- 'laws.FnArriveAtSum', WHERE WHAT IT READS IS OF BULK AT MOST 1048576: true; the input reads as it did. -/
def fnArriveAtSumUptoRow : OpenClaim := { program := "ytbmpcggdkeakeaa", sum := "8ef329e6c16873c3d576cc1f4d00dc82382f0ad5fe9b5efe509112b95278a926", func := "loop.example/watershares/laws.FnArriveAtSum", spec := "fnArriveAtSum", apart := false, narrowed := true }
def FnArriveAtSumUptoSaid : Prop := fnArriveAtSumUptoRow.holds Try.pinned (OpenSpec.upto fnArriveAtSumSpec)

end Rows
end Go.Proofs.Ytbmpcggdkeakeaa
