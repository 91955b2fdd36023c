/-
  No cell of these rows narrows 'for every input' (looked for: loops, veiled, ifaces, maps, wideKeys, modest, calm, conditions, laid).
  DERIVED. THE GIVEN ROWS OF THIS SEAT. 11 by the template 'for every input the law returns true; each argument reads behind the call as it read before'; 0 by the template 'total and deterministic' (their statements: YtongnppjekjmdaaTotals.lean).
  GIVEN WITH THE SEED: the statements are not yours to turn. If you find one false, say at which input.
  Laid BY PROGRAM, IN A SANDBOX (cutbox-rows.mjs): the forced cells as the released guide's own fill.sh prints them over the translation 11c05210db28b0c2… (all of the seat's roots in one cut). By AI agents, Wed Nov 11 2026. No macro, syntax, notation, axiom, sorry.
-/
import Derived.Test.YtongnppjekjmdaaChecked
import GoSem.Claim
import GoSem.ClaimJoined
import GoSem.ClaimMapViews
import Derived.JoinedTies
import Derived.KernelRfl
namespace Go.Proofs.Ytongnppjekjmdaa
/- THE CELL 'sum', in the pinned program and in every row, IS THE sha256 OF THE DUMP (.gsa) THAT YtongnppjekjmdaaProg.lean LOADS. Nothing in Lean hashes anything: it is a label: what it is worth is what the hold of that sum in a sandbox is worth. -/
noncomputable def Try.pinned : Pinned := { name := "ytongnppjekjmdaa", sum := "11c05210db28b0c249e5abcb5e833d2b458cdadb5c8aab93ea5d01036683f40b", checked := Try.checked }
namespace Rows
def none {H : Type} : Left H := { results := [], args := [] }

/-- 'laws.FnExactValidBasin': WHATEVER THE INPUT: true; the input reads as it did. -/
def fnExactValidBasinSpec : ChangeSpec := { name := "fnExactValidBasin", fn := fun _ => fun
  | [d] => { results := [.lit (.bool true)], args := [d] }
  | _ => none }
def fnExactValidBasinRow : OpenClaim := { program := "ytongnppjekjmdaa", sum := "11c05210db28b0c249e5abcb5e833d2b458cdadb5c8aab93ea5d01036683f40b", func := "loop.example/watershares/laws.FnExactValidBasin", spec := "fnExactValidBasin", apart := false }
def FnExactValidBasinSaid : Prop := fnExactValidBasinRow.holds Try.pinned (OpenSpec.ofChange fnExactValidBasinSpec)

/-- ITS FALSE NEIGHBOUR: 'it returns false'. Refute it at one input. -/
def fnExactValidBasinWrong : ChangeSpec := { name := "fnExactValidBasin", fn := fun _ => fun
  | [d] => { results := [.lit (.bool false)], args := [d] }
  | _ => none }
def FnExactValidBasinWrongFalsely : Prop := fnExactValidBasinRow.holds Try.pinned (OpenSpec.ofChange fnExactValidBasinWrong)

/-- 'laws.FnExactStepBasin': WHATEVER THE INPUT: true; the input reads as it did. -/
def fnExactStepBasinSpec : ChangeSpec := { name := "fnExactStepBasin", fn := fun _ => fun
  | [d1, d2, d3] => { results := [.lit (.bool true)], args := [d1, d2, d3] }
  | _ => none }
def fnExactStepBasinRow : OpenClaim := { program := "ytongnppjekjmdaa", sum := "11c05210db28b0c249e5abcb5e833d2b458cdadb5c8aab93ea5d01036683f40b", func := "loop.example/watershares/laws.FnExactStepBasin", spec := "fnExactStepBasin", apart := false }
def FnExactStepBasinSaid : Prop := fnExactStepBasinRow.holds Try.pinned (OpenSpec.ofChange fnExactStepBasinSpec)

/-- ITS FALSE NEIGHBOUR: 'it returns false'. Refute it at one input. -/
def fnExactStepBasinWrong : ChangeSpec := { name := "fnExactStepBasin", fn := fun _ => fun
  | [d1, d2, d3] => { results := [.lit (.bool false)], args := [d1, d2, d3] }
  | _ => none }
def FnExactStepBasinWrongFalsely : Prop := fnExactStepBasinRow.holds Try.pinned (OpenSpec.ofChange fnExactStepBasinWrong)

/-- 'laws.FnExactRunBasin': WHATEVER THE INPUT: true; the input reads as it did. -/
def fnExactRunBasinSpec : ChangeSpec := { name := "fnExactRunBasin", fn := fun _ => fun
  | [d1, d2, d3] => { results := [.lit (.bool true)], args := [d1, d2, d3] }
  | _ => none }
def fnExactRunBasinRow : OpenClaim := { program := "ytongnppjekjmdaa", sum := "11c05210db28b0c249e5abcb5e833d2b458cdadb5c8aab93ea5d01036683f40b", func := "loop.example/watershares/laws.FnExactRunBasin", spec := "fnExactRunBasin", apart := false }
def FnExactRunBasinSaid : Prop := fnExactRunBasinRow.holds Try.pinned (OpenSpec.ofChange fnExactRunBasinSpec)

/-- ITS FALSE NEIGHBOUR: 'it returns false'. Refute it at one input. -/
def fnExactRunBasinWrong : ChangeSpec := { name := "fnExactRunBasin", fn := fun _ => fun
  | [d1, d2, d3] => { results := [.lit (.bool false)], args := [d1, d2, d3] }
  | _ => none }
def FnExactRunBasinWrongFalsely : Prop := fnExactRunBasinRow.holds Try.pinned (OpenSpec.ofChange fnExactRunBasinWrong)

/-- 'laws.FnExactSpillsOf': WHATEVER THE INPUT: true; the input reads as it did. -/
def fnExactSpillsOfSpec : ChangeSpec := { name := "fnExactSpillsOf", fn := fun _ => fun
  | [d1, d2, d3] => { results := [.lit (.bool true)], args := [d1, d2, d3] }
  | _ => none }
def fnExactSpillsOfRow : OpenClaim := { program := "ytongnppjekjmdaa", sum := "11c05210db28b0c249e5abcb5e833d2b458cdadb5c8aab93ea5d01036683f40b", func := "loop.example/watershares/laws.FnExactSpillsOf", spec := "fnExactSpillsOf", apart := false }
def FnExactSpillsOfSaid : Prop := fnExactSpillsOfRow.holds Try.pinned (OpenSpec.ofChange fnExactSpillsOfSpec)

/-- ITS FALSE NEIGHBOUR: 'it returns false'. Refute it at one input. -/
def fnExactSpillsOfWrong : ChangeSpec := { name := "fnExactSpillsOf", fn := fun _ => fun
  | [d1, d2, d3] => { results := [.lit (.bool false)], args := [d1, d2, d3] }
  | _ => none }
def FnExactSpillsOfWrongFalsely : Prop := fnExactSpillsOfRow.holds Try.pinned (OpenSpec.ofChange fnExactSpillsOfWrong)

/-- 'laws.FnExactShortOf': WHATEVER THE INPUT: true; the input reads as it did. -/
def fnExactShortOfSpec : ChangeSpec := { name := "fnExactShortOf", fn := fun _ => fun
  | [d1, d2, d3] => { results := [.lit (.bool true)], args := [d1, d2, d3] }
  | _ => none }
def fnExactShortOfRow : OpenClaim := { program := "ytongnppjekjmdaa", sum := "11c05210db28b0c249e5abcb5e833d2b458cdadb5c8aab93ea5d01036683f40b", func := "loop.example/watershares/laws.FnExactShortOf", spec := "fnExactShortOf", apart := false }
def FnExactShortOfSaid : Prop := fnExactShortOfRow.holds Try.pinned (OpenSpec.ofChange fnExactShortOfSpec)

/-- ITS FALSE NEIGHBOUR: 'it returns false'. Refute it at one input. -/
def fnExactShortOfWrong : ChangeSpec := { name := "fnExactShortOf", fn := fun _ => fun
  | [d1, d2, d3] => { results := [.lit (.bool false)], args := [d1, d2, d3] }
  | _ => none }
def FnExactShortOfWrongFalsely : Prop := fnExactShortOfRow.holds Try.pinned (OpenSpec.ofChange fnExactShortOfWrong)

/-- 'laws.FnExactLeastRoom': WHATEVER THE INPUT: true; the input reads as it did. -/
def fnExactLeastRoomSpec : ChangeSpec := { name := "fnExactLeastRoom", fn := fun _ => fun
  | [d1, d2, d3] => { results := [.lit (.bool true)], args := [d1, d2, d3] }
  | _ => none }
def fnExactLeastRoomRow : OpenClaim := { program := "ytongnppjekjmdaa", sum := "11c05210db28b0c249e5abcb5e833d2b458cdadb5c8aab93ea5d01036683f40b", func := "loop.example/watershares/laws.FnExactLeastRoom", spec := "fnExactLeastRoom", apart := false }
def FnExactLeastRoomSaid : Prop := fnExactLeastRoomRow.holds Try.pinned (OpenSpec.ofChange fnExactLeastRoomSpec)

/-- ITS FALSE NEIGHBOUR: 'it returns false'. Refute it at one input. -/
def fnExactLeastRoomWrong : ChangeSpec := { name := "fnExactLeastRoom", fn := fun _ => fun
  | [d1, d2, d3] => { results := [.lit (.bool false)], args := [d1, d2, d3] }
  | _ => none }
def FnExactLeastRoomWrongFalsely : Prop := fnExactLeastRoomRow.holds Try.pinned (OpenSpec.ofChange fnExactLeastRoomWrong)

/-- 'laws.FnExactLeastHeld': WHATEVER THE INPUT: true; the input reads as it did. -/
def fnExactLeastHeldSpec : ChangeSpec := { name := "fnExactLeastHeld", fn := fun _ => fun
  | [d1, d2, d3] => { results := [.lit (.bool true)], args := [d1, d2, d3] }
  | _ => none }
def fnExactLeastHeldRow : OpenClaim := { program := "ytongnppjekjmdaa", sum := "11c05210db28b0c249e5abcb5e833d2b458cdadb5c8aab93ea5d01036683f40b", func := "loop.example/watershares/laws.FnExactLeastHeld", spec := "fnExactLeastHeld", apart := false }
def FnExactLeastHeldSaid : Prop := fnExactLeastHeldRow.holds Try.pinned (OpenSpec.ofChange fnExactLeastHeldSpec)

/-- ITS FALSE NEIGHBOUR: 'it returns false'. Refute it at one input. -/
def fnExactLeastHeldWrong : ChangeSpec := { name := "fnExactLeastHeld", fn := fun _ => fun
  | [d1, d2, d3] => { results := [.lit (.bool false)], args := [d1, d2, d3] }
  | _ => none }
def FnExactLeastHeldWrongFalsely : Prop := fnExactLeastHeldRow.holds Try.pinned (OpenSpec.ofChange fnExactLeastHeldWrong)

/-- 'laws.FnExactSureFlow': WHATEVER THE INPUT: true; the input reads as it did. -/
def fnExactSureFlowSpec : ChangeSpec := { name := "fnExactSureFlow", fn := fun _ => fun
  | [d1, d2] => { results := [.lit (.bool true)], args := [d1, d2] }
  | _ => none }
def fnExactSureFlowRow : OpenClaim := { program := "ytongnppjekjmdaa", sum := "11c05210db28b0c249e5abcb5e833d2b458cdadb5c8aab93ea5d01036683f40b", func := "loop.example/watershares/laws.FnExactSureFlow", spec := "fnExactSureFlow", apart := false }
def FnExactSureFlowSaid : Prop := fnExactSureFlowRow.holds Try.pinned (OpenSpec.ofChange fnExactSureFlowSpec)

/-- ITS FALSE NEIGHBOUR: 'it returns false'. Refute it at one input. -/
def fnExactSureFlowWrong : ChangeSpec := { name := "fnExactSureFlow", fn := fun _ => fun
  | [d1, d2] => { results := [.lit (.bool false)], args := [d1, d2] }
  | _ => none }
def FnExactSureFlowWrongFalsely : Prop := fnExactSureFlowRow.holds Try.pinned (OpenSpec.ofChange fnExactSureFlowWrong)

/-- 'laws.FnExactDeepestNeed': WHATEVER THE INPUT: true; the input reads as it did. -/
def fnExactDeepestNeedSpec : ChangeSpec := { name := "fnExactDeepestNeed", fn := fun _ => fun
  | [d1, d2] => { results := [.lit (.bool true)], args := [d1, d2] }
  | _ => none }
def fnExactDeepestNeedRow : OpenClaim := { program := "ytongnppjekjmdaa", sum := "11c05210db28b0c249e5abcb5e833d2b458cdadb5c8aab93ea5d01036683f40b", func := "loop.example/watershares/laws.FnExactDeepestNeed", spec := "fnExactDeepestNeed", apart := false }
def FnExactDeepestNeedSaid : Prop := fnExactDeepestNeedRow.holds Try.pinned (OpenSpec.ofChange fnExactDeepestNeedSpec)

/-- ITS FALSE NEIGHBOUR: 'it returns false'. Refute it at one input. -/
def fnExactDeepestNeedWrong : ChangeSpec := { name := "fnExactDeepestNeed", fn := fun _ => fun
  | [d1, d2] => { results := [.lit (.bool false)], args := [d1, d2] }
  | _ => none }
def FnExactDeepestNeedWrongFalsely : Prop := fnExactDeepestNeedRow.holds Try.pinned (OpenSpec.ofChange fnExactDeepestNeedWrong)

/-- 'laws.FnExactSumsOf': WHATEVER THE INPUT: true; the input reads as it did. -/
def fnExactSumsOfSpec : ChangeSpec := { name := "fnExactSumsOf", fn := fun _ => fun
  | [d] => { results := [.lit (.bool true)], args := [d] }
  | _ => none }
def fnExactSumsOfRow : OpenClaim := { program := "ytongnppjekjmdaa", sum := "11c05210db28b0c249e5abcb5e833d2b458cdadb5c8aab93ea5d01036683f40b", func := "loop.example/watershares/laws.FnExactSumsOf", spec := "fnExactSumsOf", apart := false }
def FnExactSumsOfSaid : Prop := fnExactSumsOfRow.holds Try.pinned (OpenSpec.ofChange fnExactSumsOfSpec)

/-- ITS FALSE NEIGHBOUR: 'it returns false'. Refute it at one input. -/
def fnExactSumsOfWrong : ChangeSpec := { name := "fnExactSumsOf", fn := fun _ => fun
  | [d] => { results := [.lit (.bool false)], args := [d] }
  | _ => none }
def FnExactSumsOfWrongFalsely : Prop := fnExactSumsOfRow.holds Try.pinned (OpenSpec.ofChange fnExactSumsOfWrong)

/-- 'laws.FnExactArriveAt': WHATEVER THE INPUT: true; the input reads as it did. -/
def fnExactArriveAtSpec : ChangeSpec := { name := "fnExactArriveAt", fn := fun _ => fun
  | [d1, d2, d3] => { results := [.lit (.bool true)], args := [d1, d2, d3] }
  | _ => none }
def fnExactArriveAtRow : OpenClaim := { program := "ytongnppjekjmdaa", sum := "11c05210db28b0c249e5abcb5e833d2b458cdadb5c8aab93ea5d01036683f40b", func := "loop.example/watershares/laws.FnExactArriveAt", spec := "fnExactArriveAt", apart := false }
def FnExactArriveAtSaid : Prop := fnExactArriveAtRow.holds Try.pinned (OpenSpec.ofChange fnExactArriveAtSpec)

/-- ITS FALSE NEIGHBOUR: 'it returns false'. Refute it at one input. -/
def fnExactArriveAtWrong : ChangeSpec := { name := "fnExactArriveAt", fn := fun _ => fun
  | [d1, d2, d3] => { results := [.lit (.bool false)], args := [d1, d2, d3] }
  | _ => none }
def FnExactArriveAtWrongFalsely : Prop := fnExactArriveAtRow.holds Try.pinned (OpenSpec.ofChange fnExactArriveAtWrong)

/- THE SECOND FORM. 'bulk': how many values and letters a reading holds, each counted each time it is reached (what is shared counts as often as it is met; a slice's spare places count too). A statement '..UptoSaid' is the law's where the arguments, and the package variables that the reading takes, are together of bulk at most 1048576: NARROWER than '..Said'. Prove '..Said' where nothing that the law and all that it calls make is longer than what came in: it says more and counts as full. Else prove '..UptoSaid'. A law counts once. -/
mutual
def uptoBulk {H : Type} : DataW H → Nat
  | .lit (.string bytes) => bytes.length + 1
  | .lit _ => 1
  | .nil => 1
  | .ptr d => uptoBulk d + 1
  | .slice elems spare => uptoBulkAll elems + uptoBulkAll spare + 1
  | .agg parts => uptoBulkAll parts + 1
  | .iface _ d => uptoBulk d + 1
  | .map entries => uptoBulkEntries entries + 1
  | .held _ => 1
def uptoBulkAll {H : Type} : List (DataW H) → Nat
  | [] => 0
  | d :: r => uptoBulk d + uptoBulkAll r
def uptoBulkEntries {H : Type} : List (Lit × DataW H) → Nat
  | [] => 0
  | x :: r => uptoBulkEntry x + uptoBulkEntries r
def uptoBulkEntry {H : Type} : Lit × DataW H → Nat
  | (.string bytes, d) => bytes.length + uptoBulk d + 1
  | (_, d) => uptoBulk d + 1
 end
def uptoSmall : (H : Type) → List (DataW H) → Bool := fun _ ds => decide (uptoBulkAll ds ≤ 1048576)
def OpenSpec.upto (s : _root_.Go.ChangeSpec) : _root_.Go.OpenSpec := { _root_.Go.OpenSpec.ofChange s with cond := some uptoSmall }

/-- 'laws.FnExactValidBasin', WHERE WHAT IT READS IS OF BULK AT MOST 1048576: true; the input reads as it did. -/
def fnExactValidBasinUptoRow : OpenClaim := { program := "ytongnppjekjmdaa", sum := "11c05210db28b0c249e5abcb5e833d2b458cdadb5c8aab93ea5d01036683f40b", func := "loop.example/watershares/laws.FnExactValidBasin", spec := "fnExactValidBasin", apart := false, narrowed := true }
def FnExactValidBasinUptoSaid : Prop := fnExactValidBasinUptoRow.holds Try.pinned (OpenSpec.upto fnExactValidBasinSpec)

/-- 'laws.FnExactStepBasin', WHERE WHAT IT READS IS OF BULK AT MOST 1048576: true; the input reads as it did. -/
def fnExactStepBasinUptoRow : OpenClaim := { program := "ytongnppjekjmdaa", sum := "11c05210db28b0c249e5abcb5e833d2b458cdadb5c8aab93ea5d01036683f40b", func := "loop.example/watershares/laws.FnExactStepBasin", spec := "fnExactStepBasin", apart := false, narrowed := true }
def FnExactStepBasinUptoSaid : Prop := fnExactStepBasinUptoRow.holds Try.pinned (OpenSpec.upto fnExactStepBasinSpec)

/-- 'laws.FnExactRunBasin', WHERE WHAT IT READS IS OF BULK AT MOST 1048576: true; the input reads as it did. -/
def fnExactRunBasinUptoRow : OpenClaim := { program := "ytongnppjekjmdaa", sum := "11c05210db28b0c249e5abcb5e833d2b458cdadb5c8aab93ea5d01036683f40b", func := "loop.example/watershares/laws.FnExactRunBasin", spec := "fnExactRunBasin", apart := false, narrowed := true }
def FnExactRunBasinUptoSaid : Prop := fnExactRunBasinUptoRow.holds Try.pinned (OpenSpec.upto fnExactRunBasinSpec)

/-- 'laws.FnExactSpillsOf', WHERE WHAT IT READS IS OF BULK AT MOST 1048576: true; the input reads as it did. -/
def fnExactSpillsOfUptoRow : OpenClaim := { program := "ytongnppjekjmdaa", sum := "11c05210db28b0c249e5abcb5e833d2b458cdadb5c8aab93ea5d01036683f40b", func := "loop.example/watershares/laws.FnExactSpillsOf", spec := "fnExactSpillsOf", apart := false, narrowed := true }
def FnExactSpillsOfUptoSaid : Prop := fnExactSpillsOfUptoRow.holds Try.pinned (OpenSpec.upto fnExactSpillsOfSpec)

/-- 'laws.FnExactShortOf', WHERE WHAT IT READS IS OF BULK AT MOST 1048576: true; the input reads as it did. -/
def fnExactShortOfUptoRow : OpenClaim := { program := "ytongnppjekjmdaa", sum := "11c05210db28b0c249e5abcb5e833d2b458cdadb5c8aab93ea5d01036683f40b", func := "loop.example/watershares/laws.FnExactShortOf", spec := "fnExactShortOf", apart := false, narrowed := true }
def FnExactShortOfUptoSaid : Prop := fnExactShortOfUptoRow.holds Try.pinned (OpenSpec.upto fnExactShortOfSpec)

/-- 'laws.FnExactLeastRoom', WHERE WHAT IT READS IS OF BULK AT MOST 1048576: true; the input reads as it did. -/
def fnExactLeastRoomUptoRow : OpenClaim := { program := "ytongnppjekjmdaa", sum := "11c05210db28b0c249e5abcb5e833d2b458cdadb5c8aab93ea5d01036683f40b", func := "loop.example/watershares/laws.FnExactLeastRoom", spec := "fnExactLeastRoom", apart := false, narrowed := true }
def FnExactLeastRoomUptoSaid : Prop := fnExactLeastRoomUptoRow.holds Try.pinned (OpenSpec.upto fnExactLeastRoomSpec)

/-- 'laws.FnExactLeastHeld', WHERE WHAT IT READS IS OF BULK AT MOST 1048576: true; the input reads as it did. -/
def fnExactLeastHeldUptoRow : OpenClaim := { program := "ytongnppjekjmdaa", sum := "11c05210db28b0c249e5abcb5e833d2b458cdadb5c8aab93ea5d01036683f40b", func := "loop.example/watershares/laws.FnExactLeastHeld", spec := "fnExactLeastHeld", apart := false, narrowed := true }
def FnExactLeastHeldUptoSaid : Prop := fnExactLeastHeldUptoRow.holds Try.pinned (OpenSpec.upto fnExactLeastHeldSpec)

/-- 'laws.FnExactSureFlow', WHERE WHAT IT READS IS OF BULK AT MOST 1048576: true; the input reads as it did. -/
def fnExactSureFlowUptoRow : OpenClaim := { program := "ytongnppjekjmdaa", sum := "11c05210db28b0c249e5abcb5e833d2b458cdadb5c8aab93ea5d01036683f40b", func := "loop.example/watershares/laws.FnExactSureFlow", spec := "fnExactSureFlow", apart := false, narrowed := true }
def FnExactSureFlowUptoSaid : Prop := fnExactSureFlowUptoRow.holds Try.pinned (OpenSpec.upto fnExactSureFlowSpec)

/-- 'laws.FnExactDeepestNeed', WHERE WHAT IT READS IS OF BULK AT MOST 1048576: true; the input reads as it did. -/
def fnExactDeepestNeedUptoRow : OpenClaim := { program := "ytongnppjekjmdaa", sum := "11c05210db28b0c249e5abcb5e833d2b458cdadb5c8aab93ea5d01036683f40b", func := "loop.example/watershares/laws.FnExactDeepestNeed", spec := "fnExactDeepestNeed", apart := false, narrowed := true }
def FnExactDeepestNeedUptoSaid : Prop := fnExactDeepestNeedUptoRow.holds Try.pinned (OpenSpec.upto fnExactDeepestNeedSpec)

/-- 'laws.FnExactSumsOf', WHERE WHAT IT READS IS OF BULK AT MOST 1048576: true; the input reads as it did. -/
def fnExactSumsOfUptoRow : OpenClaim := { program := "ytongnppjekjmdaa", sum := "11c05210db28b0c249e5abcb5e833d2b458cdadb5c8aab93ea5d01036683f40b", func := "loop.example/watershares/laws.FnExactSumsOf", spec := "fnExactSumsOf", apart := false, narrowed := true }
def FnExactSumsOfUptoSaid : Prop := fnExactSumsOfUptoRow.holds Try.pinned (OpenSpec.upto fnExactSumsOfSpec)

/-- 'laws.FnExactArriveAt', WHERE WHAT IT READS IS OF BULK AT MOST 1048576: true; the input reads as it did. -/
def fnExactArriveAtUptoRow : OpenClaim := { program := "ytongnppjekjmdaa", sum := "11c05210db28b0c249e5abcb5e833d2b458cdadb5c8aab93ea5d01036683f40b", func := "loop.example/watershares/laws.FnExactArriveAt", spec := "fnExactArriveAt", apart := false, narrowed := true }
def FnExactArriveAtUptoSaid : Prop := fnExactArriveAtUptoRow.holds Try.pinned (OpenSpec.upto fnExactArriveAtSpec)

end Rows
end Go.Proofs.Ytongnppjekjmdaa
