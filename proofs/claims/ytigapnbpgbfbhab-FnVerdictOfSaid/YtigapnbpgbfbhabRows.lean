/-
  No cell of these rows narrows 'for every input' (looked for: loops, veiled, ifaces, maps, wideKeys, modest, calm, conditions, laid).
  DERIVED. THE GIVEN ROWS OF THIS SEAT. 11 by the template 'for every input the law returns true; each argument reads behind the call as it read before'; 0 by the template 'total and deterministic' (their statements: YtigapnbpgbfbhabTotals.lean).
  GIVEN WITH THE SEED: the statements are not yours to turn. If you find one false, say at which input.
  Laid BY PROGRAM, IN A SANDBOX (cutbox-rows.mjs): the forced cells as the released guide's own fill.sh prints them over the translation 37af0db14f1d1f1a… (all of the seat's roots in one cut). By AI agents, Wed Nov 11 2026. No macro, syntax, notation, axiom, sorry.
-/
import Derived.Test.YtigapnbpgbfbhabChecked
import GoSem.Claim
import GoSem.ClaimJoined
import GoSem.ClaimMapViews
import Derived.JoinedTies
import Derived.KernelRfl
namespace Go.Proofs.Ytigapnbpgbfbhab
/- THE CELL 'sum', in the pinned program and in every row, IS THE sha256 OF THE DUMP (.gsa) THAT YtigapnbpgbfbhabProg.lean LOADS. Nothing in Lean hashes anything: it is a label: what it is worth is what the hold of that sum in a sandbox is worth. -/
noncomputable def Try.pinned : Pinned := { name := "ytigapnbpgbfbhab", sum := "37af0db14f1d1f1a71c0029fdd08203525637ee18f4bd3555fa37fe9e4860cb7", checked := Try.checked }
namespace Rows
def none {H : Type} : Left H := { results := [], args := [] }

/-- 'laws.FnDutyOrder': WHATEVER THE INPUT: true; the input reads as it did. -/
def fnDutyOrderSpec : ChangeSpec := { name := "fnDutyOrder", fn := fun _ => fun
  | [d] => { results := [.lit (.bool true)], args := [d] }
  | _ => none }
def fnDutyOrderRow : OpenClaim := { program := "ytigapnbpgbfbhab", sum := "37af0db14f1d1f1a71c0029fdd08203525637ee18f4bd3555fa37fe9e4860cb7", func := "loop.example/watershares/laws.FnDutyOrder", spec := "fnDutyOrder", apart := false }
def FnDutyOrderSaid : Prop := fnDutyOrderRow.holds Try.pinned (OpenSpec.ofChange fnDutyOrderSpec)

/-- ITS FALSE NEIGHBOUR: 'it returns false'. Refute it at one input. -/
def fnDutyOrderWrong : ChangeSpec := { name := "fnDutyOrder", fn := fun _ => fun
  | [d] => { results := [.lit (.bool false)], args := [d] }
  | _ => none }
def FnDutyOrderWrongFalsely : Prop := fnDutyOrderRow.holds Try.pinned (OpenSpec.ofChange fnDutyOrderWrong)

/-- 'laws.FnDutyOrderTurns': WHATEVER THE INPUT: true; the input reads as it did. -/
def fnDutyOrderTurnsSpec : ChangeSpec := { name := "fnDutyOrderTurns", fn := fun _ => fun
  | [d] => { results := [.lit (.bool true)], args := [d] }
  | _ => none }
def fnDutyOrderTurnsRow : OpenClaim := { program := "ytigapnbpgbfbhab", sum := "37af0db14f1d1f1a71c0029fdd08203525637ee18f4bd3555fa37fe9e4860cb7", func := "loop.example/watershares/laws.FnDutyOrderTurns", spec := "fnDutyOrderTurns", apart := false }
def FnDutyOrderTurnsSaid : Prop := fnDutyOrderTurnsRow.holds Try.pinned (OpenSpec.ofChange fnDutyOrderTurnsSpec)

/-- ITS FALSE NEIGHBOUR: 'it returns false'. Refute it at one input. -/
def fnDutyOrderTurnsWrong : ChangeSpec := { name := "fnDutyOrderTurns", fn := fun _ => fun
  | [d] => { results := [.lit (.bool false)], args := [d] }
  | _ => none }
def FnDutyOrderTurnsWrongFalsely : Prop := fnDutyOrderTurnsRow.holds Try.pinned (OpenSpec.ofChange fnDutyOrderTurnsWrong)

/-- 'laws.FnExactValidRules': WHATEVER THE INPUT: true; the input reads as it did. -/
def fnExactValidRulesSpec : ChangeSpec := { name := "fnExactValidRules", fn := fun _ => fun
  | [d] => { results := [.lit (.bool true)], args := [d] }
  | _ => none }
def fnExactValidRulesRow : OpenClaim := { program := "ytigapnbpgbfbhab", sum := "37af0db14f1d1f1a71c0029fdd08203525637ee18f4bd3555fa37fe9e4860cb7", func := "loop.example/watershares/laws.FnExactValidRules", spec := "fnExactValidRules", apart := false }
def FnExactValidRulesSaid : Prop := fnExactValidRulesRow.holds Try.pinned (OpenSpec.ofChange fnExactValidRulesSpec)

/-- ITS FALSE NEIGHBOUR: 'it returns false'. Refute it at one input. -/
def fnExactValidRulesWrong : ChangeSpec := { name := "fnExactValidRules", fn := fun _ => fun
  | [d] => { results := [.lit (.bool false)], args := [d] }
  | _ => none }
def FnExactValidRulesWrongFalsely : Prop := fnExactValidRulesRow.holds Try.pinned (OpenSpec.ofChange fnExactValidRulesWrong)

/-- 'laws.FnExactFirstRule': WHATEVER THE INPUT: true; the input reads as it did. -/
def fnExactFirstRuleSpec : ChangeSpec := { name := "fnExactFirstRule", fn := fun _ => fun
  | [d1, d2, d3] => { results := [.lit (.bool true)], args := [d1, d2, d3] }
  | _ => none }
def fnExactFirstRuleRow : OpenClaim := { program := "ytigapnbpgbfbhab", sum := "37af0db14f1d1f1a71c0029fdd08203525637ee18f4bd3555fa37fe9e4860cb7", func := "loop.example/watershares/laws.FnExactFirstRule", spec := "fnExactFirstRule", apart := false }
def FnExactFirstRuleSaid : Prop := fnExactFirstRuleRow.holds Try.pinned (OpenSpec.ofChange fnExactFirstRuleSpec)

/-- ITS FALSE NEIGHBOUR: 'it returns false'. Refute it at one input. -/
def fnExactFirstRuleWrong : ChangeSpec := { name := "fnExactFirstRule", fn := fun _ => fun
  | [d1, d2, d3] => { results := [.lit (.bool false)], args := [d1, d2, d3] }
  | _ => none }
def FnExactFirstRuleWrongFalsely : Prop := fnExactFirstRuleRow.holds Try.pinned (OpenSpec.ofChange fnExactFirstRuleWrong)

/-- 'laws.FnExactVerdictOf': WHATEVER THE INPUT: true; the input reads as it did. -/
def fnExactVerdictOfSpec : ChangeSpec := { name := "fnExactVerdictOf", fn := fun _ => fun
  | [d1, d2, d3] => { results := [.lit (.bool true)], args := [d1, d2, d3] }
  | _ => none }
def fnExactVerdictOfRow : OpenClaim := { program := "ytigapnbpgbfbhab", sum := "37af0db14f1d1f1a71c0029fdd08203525637ee18f4bd3555fa37fe9e4860cb7", func := "loop.example/watershares/laws.FnExactVerdictOf", spec := "fnExactVerdictOf", apart := false }
def FnExactVerdictOfSaid : Prop := fnExactVerdictOfRow.holds Try.pinned (OpenSpec.ofChange fnExactVerdictOfSpec)

/-- ITS FALSE NEIGHBOUR: 'it returns false'. Refute it at one input. -/
def fnExactVerdictOfWrong : ChangeSpec := { name := "fnExactVerdictOf", fn := fun _ => fun
  | [d1, d2, d3] => { results := [.lit (.bool false)], args := [d1, d2, d3] }
  | _ => none }
def FnExactVerdictOfWrongFalsely : Prop := fnExactVerdictOfRow.holds Try.pinned (OpenSpec.ofChange fnExactVerdictOfWrong)

/-- 'laws.FnExactDeadRules': WHATEVER THE INPUT: true; the input reads as it did. -/
def fnExactDeadRulesSpec : ChangeSpec := { name := "fnExactDeadRules", fn := fun _ => fun
  | [d] => { results := [.lit (.bool true)], args := [d] }
  | _ => none }
def fnExactDeadRulesRow : OpenClaim := { program := "ytigapnbpgbfbhab", sum := "37af0db14f1d1f1a71c0029fdd08203525637ee18f4bd3555fa37fe9e4860cb7", func := "loop.example/watershares/laws.FnExactDeadRules", spec := "fnExactDeadRules", apart := false }
def FnExactDeadRulesSaid : Prop := fnExactDeadRulesRow.holds Try.pinned (OpenSpec.ofChange fnExactDeadRulesSpec)

/-- ITS FALSE NEIGHBOUR: 'it returns false'. Refute it at one input. -/
def fnExactDeadRulesWrong : ChangeSpec := { name := "fnExactDeadRules", fn := fun _ => fun
  | [d] => { results := [.lit (.bool false)], args := [d] }
  | _ => none }
def FnExactDeadRulesWrongFalsely : Prop := fnExactDeadRulesRow.holds Try.pinned (OpenSpec.ofChange fnExactDeadRulesWrong)

/-- 'laws.FnValidRules': WHATEVER THE INPUT: true; the input reads as it did. -/
def fnValidRulesSpec : ChangeSpec := { name := "fnValidRules", fn := fun _ => fun
  | [d] => { results := [.lit (.bool true)], args := [d] }
  | _ => none }
def fnValidRulesRow : OpenClaim := { program := "ytigapnbpgbfbhab", sum := "37af0db14f1d1f1a71c0029fdd08203525637ee18f4bd3555fa37fe9e4860cb7", func := "loop.example/watershares/laws.FnValidRules", spec := "fnValidRules", apart := false }
def FnValidRulesSaid : Prop := fnValidRulesRow.holds Try.pinned (OpenSpec.ofChange fnValidRulesSpec)

/-- ITS FALSE NEIGHBOUR: 'it returns false'. Refute it at one input. -/
def fnValidRulesWrong : ChangeSpec := { name := "fnValidRules", fn := fun _ => fun
  | [d] => { results := [.lit (.bool false)], args := [d] }
  | _ => none }
def FnValidRulesWrongFalsely : Prop := fnValidRulesRow.holds Try.pinned (OpenSpec.ofChange fnValidRulesWrong)

/-- 'laws.FnFirstRule': WHATEVER THE INPUT: true; the input reads as it did. -/
def fnFirstRuleSpec : ChangeSpec := { name := "fnFirstRule", fn := fun _ => fun
  | [d] => { results := [.lit (.bool true)], args := [d] }
  | _ => none }
def fnFirstRuleRow : OpenClaim := { program := "ytigapnbpgbfbhab", sum := "37af0db14f1d1f1a71c0029fdd08203525637ee18f4bd3555fa37fe9e4860cb7", func := "loop.example/watershares/laws.FnFirstRule", spec := "fnFirstRule", apart := false }
def FnFirstRuleSaid : Prop := fnFirstRuleRow.holds Try.pinned (OpenSpec.ofChange fnFirstRuleSpec)

/-- ITS FALSE NEIGHBOUR: 'it returns false'. Refute it at one input. -/
def fnFirstRuleWrong : ChangeSpec := { name := "fnFirstRule", fn := fun _ => fun
  | [d] => { results := [.lit (.bool false)], args := [d] }
  | _ => none }
def FnFirstRuleWrongFalsely : Prop := fnFirstRuleRow.holds Try.pinned (OpenSpec.ofChange fnFirstRuleWrong)

/-- 'laws.FnVerdictOf': WHATEVER THE INPUT: true; the input reads as it did. -/
def fnVerdictOfSpec : ChangeSpec := { name := "fnVerdictOf", fn := fun _ => fun
  | [d] => { results := [.lit (.bool true)], args := [d] }
  | _ => none }
def fnVerdictOfRow : OpenClaim := { program := "ytigapnbpgbfbhab", sum := "37af0db14f1d1f1a71c0029fdd08203525637ee18f4bd3555fa37fe9e4860cb7", func := "loop.example/watershares/laws.FnVerdictOf", spec := "fnVerdictOf", apart := false }
def FnVerdictOfSaid : Prop := fnVerdictOfRow.holds Try.pinned (OpenSpec.ofChange fnVerdictOfSpec)

/-- ITS FALSE NEIGHBOUR: 'it returns false'. Refute it at one input. -/
def fnVerdictOfWrong : ChangeSpec := { name := "fnVerdictOf", fn := fun _ => fun
  | [d] => { results := [.lit (.bool false)], args := [d] }
  | _ => none }
def FnVerdictOfWrongFalsely : Prop := fnVerdictOfRow.holds Try.pinned (OpenSpec.ofChange fnVerdictOfWrong)

/-- 'laws.FnDeadRules': WHATEVER THE INPUT: true; the input reads as it did. -/
def fnDeadRulesSpec : ChangeSpec := { name := "fnDeadRules", fn := fun _ => fun
  | [d] => { results := [.lit (.bool true)], args := [d] }
  | _ => none }
def fnDeadRulesRow : OpenClaim := { program := "ytigapnbpgbfbhab", sum := "37af0db14f1d1f1a71c0029fdd08203525637ee18f4bd3555fa37fe9e4860cb7", func := "loop.example/watershares/laws.FnDeadRules", spec := "fnDeadRules", apart := false }
def FnDeadRulesSaid : Prop := fnDeadRulesRow.holds Try.pinned (OpenSpec.ofChange fnDeadRulesSpec)

/-- ITS FALSE NEIGHBOUR: 'it returns false'. Refute it at one input. -/
def fnDeadRulesWrong : ChangeSpec := { name := "fnDeadRules", fn := fun _ => fun
  | [d] => { results := [.lit (.bool false)], args := [d] }
  | _ => none }
def FnDeadRulesWrongFalsely : Prop := fnDeadRulesRow.holds Try.pinned (OpenSpec.ofChange fnDeadRulesWrong)

/-- 'laws.FnExactSplitByMiddle': WHATEVER THE INPUT: true; the input reads as it did. -/
def fnExactSplitByMiddleSpec : ChangeSpec := { name := "fnExactSplitByMiddle", fn := fun _ => fun
  | [d1, d2] => { results := [.lit (.bool true)], args := [d1, d2] }
  | _ => none }
def fnExactSplitByMiddleRow : OpenClaim := { program := "ytigapnbpgbfbhab", sum := "37af0db14f1d1f1a71c0029fdd08203525637ee18f4bd3555fa37fe9e4860cb7", func := "loop.example/watershares/laws.FnExactSplitByMiddle", spec := "fnExactSplitByMiddle", apart := false }
def FnExactSplitByMiddleSaid : Prop := fnExactSplitByMiddleRow.holds Try.pinned (OpenSpec.ofChange fnExactSplitByMiddleSpec)

/-- ITS FALSE NEIGHBOUR: 'it returns false'. Refute it at one input. -/
def fnExactSplitByMiddleWrong : ChangeSpec := { name := "fnExactSplitByMiddle", fn := fun _ => fun
  | [d1, d2] => { results := [.lit (.bool false)], args := [d1, d2] }
  | _ => none }
def FnExactSplitByMiddleWrongFalsely : Prop := fnExactSplitByMiddleRow.holds Try.pinned (OpenSpec.ofChange fnExactSplitByMiddleWrong)

/- THE SECOND FORM. 'bulk': how many values and letters a reading holds, each counted each time it is reached (what is shared counts as often as it is met; a slice's spare places count too). A statement '..UptoSaid' is the law's where the arguments, and the package variables that the reading takes, are together of bulk at most 1048576: NARROWER than '..Said'. Prove '..Said' where nothing that the law and all that it calls make is longer than what came in: it says more and counts as full. Else prove '..UptoSaid'. A law counts once. -/
mutual
def uptoBulk {H : Type} : DataW H → Nat
  | .lit (.string bytes) => bytes.length + 1
  | .lit _ => 1
  | .nil => 1
  | .ptr d => uptoBulk d + 1
  | .slice elems spare => uptoBulkAll elems + uptoBulkAll spare + 1
  | .agg parts => uptoBulkAll parts + 1
  | .iface _ d => uptoBulk d + 1
  | .map entries => uptoBulkEntries entries + 1
  | .held _ => 1
def uptoBulkAll {H : Type} : List (DataW H) → Nat
  | [] => 0
  | d :: r => uptoBulk d + uptoBulkAll r
def uptoBulkEntries {H : Type} : List (Lit × DataW H) → Nat
  | [] => 0
  | x :: r => uptoBulkEntry x + uptoBulkEntries r
def uptoBulkEntry {H : Type} : Lit × DataW H → Nat
  | (.string bytes, d) => bytes.length + uptoBulk d + 1
  | (_, d) => uptoBulk d + 1
 end
def uptoSmall : (H : Type) → List (DataW H) → Bool := fun _ ds => decide (uptoBulkAll ds ≤ 1048576)
def OpenSpec.upto (s : _root_.Go.ChangeSpec) : _root_.Go.OpenSpec := { _root_.Go.OpenSpec.ofChange s with cond := some uptoSmall }

/-- 'laws.FnDutyOrder', WHERE WHAT IT READS IS OF BULK AT MOST 1048576: true; the input reads as it did. -/
def fnDutyOrderUptoRow : OpenClaim := { program := "ytigapnbpgbfbhab", sum := "37af0db14f1d1f1a71c0029fdd08203525637ee18f4bd3555fa37fe9e4860cb7", func := "loop.example/watershares/laws.FnDutyOrder", spec := "fnDutyOrder", apart := false, narrowed := true }
def FnDutyOrderUptoSaid : Prop := fnDutyOrderUptoRow.holds Try.pinned (OpenSpec.upto fnDutyOrderSpec)

/-- 'laws.FnDutyOrderTurns', WHERE WHAT IT READS IS OF BULK AT MOST 1048576: true; the input reads as it did. -/
def fnDutyOrderTurnsUptoRow : OpenClaim := { program := "ytigapnbpgbfbhab", sum := "37af0db14f1d1f1a71c0029fdd08203525637ee18f4bd3555fa37fe9e4860cb7", func := "loop.example/watershares/laws.FnDutyOrderTurns", spec := "fnDutyOrderTurns", apart := false, narrowed := true }
def FnDutyOrderTurnsUptoSaid : Prop := fnDutyOrderTurnsUptoRow.holds Try.pinned (OpenSpec.upto fnDutyOrderTurnsSpec)

/-- 'laws.FnExactValidRules', WHERE WHAT IT READS IS OF BULK AT MOST 1048576: true; the input reads as it did. -/
def fnExactValidRulesUptoRow : OpenClaim := { program := "ytigapnbpgbfbhab", sum := "37af0db14f1d1f1a71c0029fdd08203525637ee18f4bd3555fa37fe9e4860cb7", func := "loop.example/watershares/laws.FnExactValidRules", spec := "fnExactValidRules", apart := false, narrowed := true }
def FnExactValidRulesUptoSaid : Prop := fnExactValidRulesUptoRow.holds Try.pinned (OpenSpec.upto fnExactValidRulesSpec)

/-- 'laws.FnExactFirstRule', WHERE WHAT IT READS IS OF BULK AT MOST 1048576: true; the input reads as it did. -/
def fnExactFirstRuleUptoRow : OpenClaim := { program := "ytigapnbpgbfbhab", sum := "37af0db14f1d1f1a71c0029fdd08203525637ee18f4bd3555fa37fe9e4860cb7", func := "loop.example/watershares/laws.FnExactFirstRule", spec := "fnExactFirstRule", apart := false, narrowed := true }
def FnExactFirstRuleUptoSaid : Prop := fnExactFirstRuleUptoRow.holds Try.pinned (OpenSpec.upto fnExactFirstRuleSpec)

/-- 'laws.FnExactVerdictOf', WHERE WHAT IT READS IS OF BULK AT MOST 1048576: true; the input reads as it did. -/
def fnExactVerdictOfUptoRow : OpenClaim := { program := "ytigapnbpgbfbhab", sum := "37af0db14f1d1f1a71c0029fdd08203525637ee18f4bd3555fa37fe9e4860cb7", func := "loop.example/watershares/laws.FnExactVerdictOf", spec := "fnExactVerdictOf", apart := false, narrowed := true }
def FnExactVerdictOfUptoSaid : Prop := fnExactVerdictOfUptoRow.holds Try.pinned (OpenSpec.upto fnExactVerdictOfSpec)

/-- 'laws.FnExactDeadRules', WHERE WHAT IT READS IS OF BULK AT MOST 1048576: true; the input reads as it did. -/
def fnExactDeadRulesUptoRow : OpenClaim := { program := "ytigapnbpgbfbhab", sum := "37af0db14f1d1f1a71c0029fdd08203525637ee18f4bd3555fa37fe9e4860cb7", func := "loop.example/watershares/laws.FnExactDeadRules", spec := "fnExactDeadRules", apart := false, narrowed := true }
def FnExactDeadRulesUptoSaid : Prop := fnExactDeadRulesUptoRow.holds Try.pinned (OpenSpec.upto fnExactDeadRulesSpec)

/-- 'laws.FnValidRules', WHERE WHAT IT READS IS OF BULK AT MOST 1048576: true; the input reads as it did. -/
def fnValidRulesUptoRow : OpenClaim := { program := "ytigapnbpgbfbhab", sum := "37af0db14f1d1f1a71c0029fdd08203525637ee18f4bd3555fa37fe9e4860cb7", func := "loop.example/watershares/laws.FnValidRules", spec := "fnValidRules", apart := false, narrowed := true }
def FnValidRulesUptoSaid : Prop := fnValidRulesUptoRow.holds Try.pinned (OpenSpec.upto fnValidRulesSpec)

/-- 'laws.FnFirstRule', WHERE WHAT IT READS IS OF BULK AT MOST 1048576: true; the input reads as it did. -/
def fnFirstRuleUptoRow : OpenClaim := { program := "ytigapnbpgbfbhab", sum := "37af0db14f1d1f1a71c0029fdd08203525637ee18f4bd3555fa37fe9e4860cb7", func := "loop.example/watershares/laws.FnFirstRule", spec := "fnFirstRule", apart := false, narrowed := true }
def FnFirstRuleUptoSaid : Prop := fnFirstRuleUptoRow.holds Try.pinned (OpenSpec.upto fnFirstRuleSpec)

/-- 'laws.FnVerdictOf', WHERE WHAT IT READS IS OF BULK AT MOST 1048576: true; the input reads as it did. -/
def fnVerdictOfUptoRow : OpenClaim := { program := "ytigapnbpgbfbhab", sum := "37af0db14f1d1f1a71c0029fdd08203525637ee18f4bd3555fa37fe9e4860cb7", func := "loop.example/watershares/laws.FnVerdictOf", spec := "fnVerdictOf", apart := false, narrowed := true }
def FnVerdictOfUptoSaid : Prop := fnVerdictOfUptoRow.holds Try.pinned (OpenSpec.upto fnVerdictOfSpec)

/-- 'laws.FnDeadRules', WHERE WHAT IT READS IS OF BULK AT MOST 1048576: true; the input reads as it did. -/
def fnDeadRulesUptoRow : OpenClaim := { program := "ytigapnbpgbfbhab", sum := "37af0db14f1d1f1a71c0029fdd08203525637ee18f4bd3555fa37fe9e4860cb7", func := "loop.example/watershares/laws.FnDeadRules", spec := "fnDeadRules", apart := false, narrowed := true }
def FnDeadRulesUptoSaid : Prop := fnDeadRulesUptoRow.holds Try.pinned (OpenSpec.upto fnDeadRulesSpec)

/-- 'laws.FnExactSplitByMiddle', WHERE WHAT IT READS IS OF BULK AT MOST 1048576: true; the input reads as it did. -/
def fnExactSplitByMiddleUptoRow : OpenClaim := { program := "ytigapnbpgbfbhab", sum := "37af0db14f1d1f1a71c0029fdd08203525637ee18f4bd3555fa37fe9e4860cb7", func := "loop.example/watershares/laws.FnExactSplitByMiddle", spec := "fnExactSplitByMiddle", apart := false, narrowed := true }
def FnExactSplitByMiddleUptoSaid : Prop := fnExactSplitByMiddleUptoRow.holds Try.pinned (OpenSpec.upto fnExactSplitByMiddleSpec)

end Rows
end Go.Proofs.Ytigapnbpgbfbhab
