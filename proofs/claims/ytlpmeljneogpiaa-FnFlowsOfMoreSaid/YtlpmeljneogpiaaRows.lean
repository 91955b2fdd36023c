/-
  No cell of these rows narrows 'for every input' (looked for: loops, veiled, ifaces, maps, wideKeys, modest, calm, conditions, laid).
  DERIVED. THE GIVEN ROWS OF THIS SEAT. 9 by the template 'for every input the law returns true; each argument reads behind the call as it read before'; 0 by the template 'total and deterministic' (their statements: YtlpmeljneogpiaaTotals.lean).
  GIVEN WITH THE SEED: the statements are not yours to turn. If you find one false, say at which input.
  Laid BY PROGRAM, IN A SANDBOX (cutbox-rows.mjs): the forced cells as the released guide's own fill.sh prints them over the translation cf20cb52bd314e36… (all of the seat's roots in one cut). By AI agents, Wed Nov 11 2026. No macro, syntax, notation, axiom, sorry.
-/
import Derived.Test.YtlpmeljneogpiaaChecked
import GoSem.Claim
import GoSem.ClaimJoined
import GoSem.ClaimMapViews
import Derived.JoinedTies
import Derived.KernelRfl
namespace Go.Proofs.Ytlpmeljneogpiaa
/- THE CELL 'sum', in the pinned program and in every row, IS THE sha256 OF THE DUMP (.gsa) THAT YtlpmeljneogpiaaProg.lean LOADS. Nothing in Lean hashes anything: it is a label: what it is worth is what the hold of that sum in a sandbox is worth. -/
noncomputable def Try.pinned : Pinned := { name := "ytlpmeljneogpiaa", sum := "cf20cb52bd314e36fcdd36fcd070df3635f4a28b9732f7302290f5104a4c767a", checked := Try.checked }
namespace Rows
def none {H : Type} : Left H := { results := [], args := [] }

/-- 'laws.FnExactFlowsOf': WHATEVER THE INPUT: true; the input reads as it did. -/
def fnExactFlowsOfSpec : ChangeSpec := { name := "fnExactFlowsOf", fn := fun _ => fun
  | [d1, d2] => { results := [.lit (.bool true)], args := [d1, d2] }
  | _ => none }
def fnExactFlowsOfRow : OpenClaim := { program := "ytlpmeljneogpiaa", sum := "cf20cb52bd314e36fcdd36fcd070df3635f4a28b9732f7302290f5104a4c767a", func := "loop.example/watershares/laws.FnExactFlowsOf", spec := "fnExactFlowsOf", apart := false }
def FnExactFlowsOfSaid : Prop := fnExactFlowsOfRow.holds Try.pinned (OpenSpec.ofChange fnExactFlowsOfSpec)

/-- ITS FALSE NEIGHBOUR: 'it returns false'. Refute it at one input. -/
def fnExactFlowsOfWrong : ChangeSpec := { name := "fnExactFlowsOf", fn := fun _ => fun
  | [d1, d2] => { results := [.lit (.bool false)], args := [d1, d2] }
  | _ => none }
def FnExactFlowsOfWrongFalsely : Prop := fnExactFlowsOfRow.holds Try.pinned (OpenSpec.ofChange fnExactFlowsOfWrong)

/-- 'laws.FnExactPassedOf': WHATEVER THE INPUT: true; the input reads as it did. -/
def fnExactPassedOfSpec : ChangeSpec := { name := "fnExactPassedOf", fn := fun _ => fun
  | [d1, d2] => { results := [.lit (.bool true)], args := [d1, d2] }
  | _ => none }
def fnExactPassedOfRow : OpenClaim := { program := "ytlpmeljneogpiaa", sum := "cf20cb52bd314e36fcdd36fcd070df3635f4a28b9732f7302290f5104a4c767a", func := "loop.example/watershares/laws.FnExactPassedOf", spec := "fnExactPassedOf", apart := false }
def FnExactPassedOfSaid : Prop := fnExactPassedOfRow.holds Try.pinned (OpenSpec.ofChange fnExactPassedOfSpec)

/-- ITS FALSE NEIGHBOUR: 'it returns false'. Refute it at one input. -/
def fnExactPassedOfWrong : ChangeSpec := { name := "fnExactPassedOf", fn := fun _ => fun
  | [d1, d2] => { results := [.lit (.bool false)], args := [d1, d2] }
  | _ => none }
def FnExactPassedOfWrongFalsely : Prop := fnExactPassedOfRow.holds Try.pinned (OpenSpec.ofChange fnExactPassedOfWrong)

/-- 'laws.FnExactLostIn': WHATEVER THE INPUT: true; the input reads as it did. -/
def fnExactLostInSpec : ChangeSpec := { name := "fnExactLostIn", fn := fun _ => fun
  | [d1, d2] => { results := [.lit (.bool true)], args := [d1, d2] }
  | _ => none }
def fnExactLostInRow : OpenClaim := { program := "ytlpmeljneogpiaa", sum := "cf20cb52bd314e36fcdd36fcd070df3635f4a28b9732f7302290f5104a4c767a", func := "loop.example/watershares/laws.FnExactLostIn", spec := "fnExactLostIn", apart := false }
def FnExactLostInSaid : Prop := fnExactLostInRow.holds Try.pinned (OpenSpec.ofChange fnExactLostInSpec)

/-- ITS FALSE NEIGHBOUR: 'it returns false'. Refute it at one input. -/
def fnExactLostInWrong : ChangeSpec := { name := "fnExactLostIn", fn := fun _ => fun
  | [d1, d2] => { results := [.lit (.bool false)], args := [d1, d2] }
  | _ => none }
def FnExactLostInWrongFalsely : Prop := fnExactLostInRow.holds Try.pinned (OpenSpec.ofChange fnExactLostInWrong)

/-- 'laws.FnExactNeedFor': WHATEVER THE INPUT: true; the input reads as it did. -/
def fnExactNeedForSpec : ChangeSpec := { name := "fnExactNeedFor", fn := fun _ => fun
  | [d1, d2, d3] => { results := [.lit (.bool true)], args := [d1, d2, d3] }
  | _ => none }
def fnExactNeedForRow : OpenClaim := { program := "ytlpmeljneogpiaa", sum := "cf20cb52bd314e36fcdd36fcd070df3635f4a28b9732f7302290f5104a4c767a", func := "loop.example/watershares/laws.FnExactNeedFor", spec := "fnExactNeedFor", apart := false }
def FnExactNeedForSaid : Prop := fnExactNeedForRow.holds Try.pinned (OpenSpec.ofChange fnExactNeedForSpec)

/-- ITS FALSE NEIGHBOUR: 'it returns false'. Refute it at one input. -/
def fnExactNeedForWrong : ChangeSpec := { name := "fnExactNeedFor", fn := fun _ => fun
  | [d1, d2, d3] => { results := [.lit (.bool false)], args := [d1, d2, d3] }
  | _ => none }
def FnExactNeedForWrongFalsely : Prop := fnExactNeedForRow.holds Try.pinned (OpenSpec.ofChange fnExactNeedForWrong)

/-- 'laws.FnExactArriveAt': WHATEVER THE INPUT: true; the input reads as it did. -/
def fnExactArriveAtSpec : ChangeSpec := { name := "fnExactArriveAt", fn := fun _ => fun
  | [d1, d2, d3] => { results := [.lit (.bool true)], args := [d1, d2, d3] }
  | _ => none }
def fnExactArriveAtRow : OpenClaim := { program := "ytlpmeljneogpiaa", sum := "cf20cb52bd314e36fcdd36fcd070df3635f4a28b9732f7302290f5104a4c767a", func := "loop.example/watershares/laws.FnExactArriveAt", spec := "fnExactArriveAt", apart := false }
def FnExactArriveAtSaid : Prop := fnExactArriveAtRow.holds Try.pinned (OpenSpec.ofChange fnExactArriveAtSpec)

/-- ITS FALSE NEIGHBOUR: 'it returns false'. Refute it at one input. -/
def fnExactArriveAtWrong : ChangeSpec := { name := "fnExactArriveAt", fn := fun _ => fun
  | [d1, d2, d3] => { results := [.lit (.bool false)], args := [d1, d2, d3] }
  | _ => none }
def FnExactArriveAtWrongFalsely : Prop := fnExactArriveAtRow.holds Try.pinned (OpenSpec.ofChange fnExactArriveAtWrong)

/-- 'laws.FnFlowsOf': WHATEVER THE INPUT: true; the input reads as it did. -/
def fnFlowsOfSpec : ChangeSpec := { name := "fnFlowsOf", fn := fun _ => fun
  | [d] => { results := [.lit (.bool true)], args := [d] }
  | _ => none }
def fnFlowsOfRow : OpenClaim := { program := "ytlpmeljneogpiaa", sum := "cf20cb52bd314e36fcdd36fcd070df3635f4a28b9732f7302290f5104a4c767a", func := "loop.example/watershares/laws.FnFlowsOf", spec := "fnFlowsOf", apart := false }
def FnFlowsOfSaid : Prop := fnFlowsOfRow.holds Try.pinned (OpenSpec.ofChange fnFlowsOfSpec)

/-- ITS FALSE NEIGHBOUR: 'it returns false'. Refute it at one input. -/
def fnFlowsOfWrong : ChangeSpec := { name := "fnFlowsOf", fn := fun _ => fun
  | [d] => { results := [.lit (.bool false)], args := [d] }
  | _ => none }
def FnFlowsOfWrongFalsely : Prop := fnFlowsOfRow.holds Try.pinned (OpenSpec.ofChange fnFlowsOfWrong)

/-- 'laws.FnFlowsOfMore': WHATEVER THE INPUT: true; the input reads as it did. -/
def fnFlowsOfMoreSpec : ChangeSpec := { name := "fnFlowsOfMore", fn := fun _ => fun
  | [d] => { results := [.lit (.bool true)], args := [d] }
  | _ => none }
def fnFlowsOfMoreRow : OpenClaim := { program := "ytlpmeljneogpiaa", sum := "cf20cb52bd314e36fcdd36fcd070df3635f4a28b9732f7302290f5104a4c767a", func := "loop.example/watershares/laws.FnFlowsOfMore", spec := "fnFlowsOfMore", apart := false }
def FnFlowsOfMoreSaid : Prop := fnFlowsOfMoreRow.holds Try.pinned (OpenSpec.ofChange fnFlowsOfMoreSpec)

/-- ITS FALSE NEIGHBOUR: 'it returns false'. Refute it at one input. -/
def fnFlowsOfMoreWrong : ChangeSpec := { name := "fnFlowsOfMore", fn := fun _ => fun
  | [d] => { results := [.lit (.bool false)], args := [d] }
  | _ => none }
def FnFlowsOfMoreWrongFalsely : Prop := fnFlowsOfMoreRow.holds Try.pinned (OpenSpec.ofChange fnFlowsOfMoreWrong)

/-- 'laws.FnLostIn': WHATEVER THE INPUT: true; the input reads as it did. -/
def fnLostInSpec : ChangeSpec := { name := "fnLostIn", fn := fun _ => fun
  | [d] => { results := [.lit (.bool true)], args := [d] }
  | _ => none }
def fnLostInRow : OpenClaim := { program := "ytlpmeljneogpiaa", sum := "cf20cb52bd314e36fcdd36fcd070df3635f4a28b9732f7302290f5104a4c767a", func := "loop.example/watershares/laws.FnLostIn", spec := "fnLostIn", apart := false }
def FnLostInSaid : Prop := fnLostInRow.holds Try.pinned (OpenSpec.ofChange fnLostInSpec)

/-- ITS FALSE NEIGHBOUR: 'it returns false'. Refute it at one input. -/
def fnLostInWrong : ChangeSpec := { name := "fnLostIn", fn := fun _ => fun
  | [d] => { results := [.lit (.bool false)], args := [d] }
  | _ => none }
def FnLostInWrongFalsely : Prop := fnLostInRow.holds Try.pinned (OpenSpec.ofChange fnLostInWrong)

/-- 'laws.FnPassedOf': WHATEVER THE INPUT: true; the input reads as it did. -/
def fnPassedOfSpec : ChangeSpec := { name := "fnPassedOf", fn := fun _ => fun
  | [d] => { results := [.lit (.bool true)], args := [d] }
  | _ => none }
def fnPassedOfRow : OpenClaim := { program := "ytlpmeljneogpiaa", sum := "cf20cb52bd314e36fcdd36fcd070df3635f4a28b9732f7302290f5104a4c767a", func := "loop.example/watershares/laws.FnPassedOf", spec := "fnPassedOf", apart := false }
def FnPassedOfSaid : Prop := fnPassedOfRow.holds Try.pinned (OpenSpec.ofChange fnPassedOfSpec)

/-- ITS FALSE NEIGHBOUR: 'it returns false'. Refute it at one input. -/
def fnPassedOfWrong : ChangeSpec := { name := "fnPassedOf", fn := fun _ => fun
  | [d] => { results := [.lit (.bool false)], args := [d] }
  | _ => none }
def FnPassedOfWrongFalsely : Prop := fnPassedOfRow.holds Try.pinned (OpenSpec.ofChange fnPassedOfWrong)

/- THE SECOND FORM. 'bulk': how many values and letters a reading holds, each counted each time it is reached (what is shared counts as often as it is met; a slice's spare places count too). A statement '..UptoSaid' is the law's where the arguments, and the package variables that the reading takes, are together of bulk at most 1048576: NARROWER than '..Said'. Prove '..Said' where nothing that the law and all that it calls make is longer than what came in: it says more and counts as full. Else prove '..UptoSaid'. A law counts once. -/
mutual
def uptoBulk {H : Type} : DataW H → Nat
  | .lit (.string bytes) => bytes.length + 1
  | .lit _ => 1
  | .nil => 1
  | .ptr d => uptoBulk d + 1
  | .slice elems spare => uptoBulkAll elems + uptoBulkAll spare + 1
  | .agg parts => uptoBulkAll parts + 1
  | .iface _ d => uptoBulk d + 1
  | .map entries => uptoBulkEntries entries + 1
  | .held _ => 1
def uptoBulkAll {H : Type} : List (DataW H) → Nat
  | [] => 0
  | d :: r => uptoBulk d + uptoBulkAll r
def uptoBulkEntries {H : Type} : List (Lit × DataW H) → Nat
  | [] => 0
  | x :: r => uptoBulkEntry x + uptoBulkEntries r
def uptoBulkEntry {H : Type} : Lit × DataW H → Nat
  | (.string bytes, d) => bytes.length + uptoBulk d + 1
  | (_, d) => uptoBulk d + 1
 end
def uptoSmall : (H : Type) → List (DataW H) → Bool := fun _ ds => decide (uptoBulkAll ds ≤ 1048576)
def OpenSpec.upto (s : _root_.Go.ChangeSpec) : _root_.Go.OpenSpec := { _root_.Go.OpenSpec.ofChange s with cond := some uptoSmall }

/-- 'laws.FnExactFlowsOf', WHERE WHAT IT READS IS OF BULK AT MOST 1048576: true; the input reads as it did. -/
def fnExactFlowsOfUptoRow : OpenClaim := { program := "ytlpmeljneogpiaa", sum := "cf20cb52bd314e36fcdd36fcd070df3635f4a28b9732f7302290f5104a4c767a", func := "loop.example/watershares/laws.FnExactFlowsOf", spec := "fnExactFlowsOf", apart := false, narrowed := true }
def FnExactFlowsOfUptoSaid : Prop := fnExactFlowsOfUptoRow.holds Try.pinned (OpenSpec.upto fnExactFlowsOfSpec)

/-- 'laws.FnExactPassedOf', WHERE WHAT IT READS IS OF BULK AT MOST 1048576: true; the input reads as it did. -/
def fnExactPassedOfUptoRow : OpenClaim := { program := "ytlpmeljneogpiaa", sum := "cf20cb52bd314e36fcdd36fcd070df3635f4a28b9732f7302290f5104a4c767a", func := "loop.example/watershares/laws.FnExactPassedOf", spec := "fnExactPassedOf", apart := false, narrowed := true }
def FnExactPassedOfUptoSaid : Prop := fnExactPassedOfUptoRow.holds Try.pinned (OpenSpec.upto fnExactPassedOfSpec)

/-- 'laws.FnExactLostIn', WHERE WHAT IT READS IS OF BULK AT MOST 1048576: true; the input reads as it did. -/
def fnExactLostInUptoRow : OpenClaim := { program := "ytlpmeljneogpiaa", sum := "cf20cb52bd314e36fcdd36fcd070df3635f4a28b9732f7302290f5104a4c767a", func := "loop.example/watershares/laws.FnExactLostIn", spec := "fnExactLostIn", apart := false, narrowed := true }
def FnExactLostInUptoSaid : Prop := fnExactLostInUptoRow.holds Try.pinned (OpenSpec.upto fnExactLostInSpec)

/-- 'laws.FnExactNeedFor', WHERE WHAT IT READS IS OF BULK AT MOST 1048576: true; the input reads as it did. -/
def fnExactNeedForUptoRow : OpenClaim := { program := "ytlpmeljneogpiaa", sum := "cf20cb52bd314e36fcdd36fcd070df3635f4a28b9732f7302290f5104a4c767a", func := "loop.example/watershares/laws.FnExactNeedFor", spec := "fnExactNeedFor", apart := false, narrowed := true }
def FnExactNeedForUptoSaid : Prop := fnExactNeedForUptoRow.holds Try.pinned (OpenSpec.upto fnExactNeedForSpec)

/-- 'laws.FnExactArriveAt', WHERE WHAT IT READS IS OF BULK AT MOST 1048576: true; the input reads as it did. -/
def fnExactArriveAtUptoRow : OpenClaim := { program := "ytlpmeljneogpiaa", sum := "cf20cb52bd314e36fcdd36fcd070df3635f4a28b9732f7302290f5104a4c767a", func := "loop.example/watershares/laws.FnExactArriveAt", spec := "fnExactArriveAt", apart := false, narrowed := true }
def FnExactArriveAtUptoSaid : Prop := fnExactArriveAtUptoRow.holds Try.pinned (OpenSpec.upto fnExactArriveAtSpec)

/-- 'laws.FnFlowsOf', WHERE WHAT IT READS IS OF BULK AT MOST 1048576: true; the input reads as it did. -/
def fnFlowsOfUptoRow : OpenClaim := { program := "ytlpmeljneogpiaa", sum := "cf20cb52bd314e36fcdd36fcd070df3635f4a28b9732f7302290f5104a4c767a", func := "loop.example/watershares/laws.FnFlowsOf", spec := "fnFlowsOf", apart := false, narrowed := true }
def FnFlowsOfUptoSaid : Prop := fnFlowsOfUptoRow.holds Try.pinned (OpenSpec.upto fnFlowsOfSpec)

/-- 'laws.FnFlowsOfMore', WHERE WHAT IT READS IS OF BULK AT MOST 1048576: true; the input reads as it did. -/
def fnFlowsOfMoreUptoRow : OpenClaim := { program := "ytlpmeljneogpiaa", sum := "cf20cb52bd314e36fcdd36fcd070df3635f4a28b9732f7302290f5104a4c767a", func := "loop.example/watershares/laws.FnFlowsOfMore", spec := "fnFlowsOfMore", apart := false, narrowed := true }
def FnFlowsOfMoreUptoSaid : Prop := fnFlowsOfMoreUptoRow.holds Try.pinned (OpenSpec.upto fnFlowsOfMoreSpec)

/-- 'laws.FnLostIn', WHERE WHAT IT READS IS OF BULK AT MOST 1048576: true; the input reads as it did. -/
def fnLostInUptoRow : OpenClaim := { program := "ytlpmeljneogpiaa", sum := "cf20cb52bd314e36fcdd36fcd070df3635f4a28b9732f7302290f5104a4c767a", func := "loop.example/watershares/laws.FnLostIn", spec := "fnLostIn", apart := false, narrowed := true }
def FnLostInUptoSaid : Prop := fnLostInUptoRow.holds Try.pinned (OpenSpec.upto fnLostInSpec)

/-- 'laws.FnPassedOf', WHERE WHAT IT READS IS OF BULK AT MOST 1048576: true; the input reads as it did. -/
def fnPassedOfUptoRow : OpenClaim := { program := "ytlpmeljneogpiaa", sum := "cf20cb52bd314e36fcdd36fcd070df3635f4a28b9732f7302290f5104a4c767a", func := "loop.example/watershares/laws.FnPassedOf", spec := "fnPassedOf", apart := false, narrowed := true }
def FnPassedOfUptoSaid : Prop := fnPassedOfUptoRow.holds Try.pinned (OpenSpec.upto fnPassedOfSpec)

end Rows
end Go.Proofs.Ytlpmeljneogpiaa
