/-
  No cell of these rows narrows 'for every input' (looked for: loops, veiled, ifaces, maps, wideKeys, modest, calm, conditions, laid).
  DERIVED. THE GIVEN ROWS OF THIS SEAT. 14 by the template 'for every input the law returns true; each argument reads behind the call as it read before'; 0 by the template 'total and deterministic' (their statements: YtfcgjiciobfncaaTotals.lean).
  GIVEN WITH THE SEED: the statements are not yours to turn. If you find one false, say at which input.
  Laid BY PROGRAM, IN A SANDBOX (cutbox-rows.mjs): the forced cells as the released guide's own fill.sh prints them over the translation 934f03d133c855b0… (all of the seat's roots in one cut). By AI agents, Wed Nov 11 2026. No macro, syntax, notation, axiom, sorry.
-/
import Derived.Test.YtfcgjiciobfncaaChecked
import GoSem.Claim
import GoSem.ClaimJoined
import GoSem.ClaimMapViews
import Derived.JoinedTies
import Derived.KernelRfl
namespace Go.Proofs.Ytfcgjiciobfncaa
/- THE CELL 'sum', in the pinned program and in every row, IS THE sha256 OF THE DUMP (.gsa) THAT YtfcgjiciobfncaaProg.lean LOADS. Nothing in Lean hashes anything: it is a label: what it is worth is what the hold of that sum in a sandbox is worth. -/
noncomputable def Try.pinned : Pinned := { name := "ytfcgjiciobfncaa", sum := "934f03d133c855b0f4f47e0eacb5579a2b0029a0950de2829461cb2bc4b9f196", checked := Try.checked }
namespace Rows
def none {H : Type} : Left H := { results := [], args := [] }

/-- 'laws.FnValidBasin': WHATEVER THE INPUT: true; the input reads as it did. -/
def fnValidBasinSpec : ChangeSpec := { name := "fnValidBasin", fn := fun _ => fun
  | [d] => { results := [.lit (.bool true)], args := [d] }
  | _ => none }
def fnValidBasinRow : OpenClaim := { program := "ytfcgjiciobfncaa", sum := "934f03d133c855b0f4f47e0eacb5579a2b0029a0950de2829461cb2bc4b9f196", func := "loop.example/watershares/laws.FnValidBasin", spec := "fnValidBasin", apart := false }
def FnValidBasinSaid : Prop := fnValidBasinRow.holds Try.pinned (OpenSpec.ofChange fnValidBasinSpec)

/-- ITS FALSE NEIGHBOUR: 'it returns false'. Refute it at one input. -/
def fnValidBasinWrong : ChangeSpec := { name := "fnValidBasin", fn := fun _ => fun
  | [d] => { results := [.lit (.bool false)], args := [d] }
  | _ => none }
def FnValidBasinWrongFalsely : Prop := fnValidBasinRow.holds Try.pinned (OpenSpec.ofChange fnValidBasinWrong)

/-- 'laws.FnStepBasin': WHATEVER THE INPUT: true; the input reads as it did. -/
def fnStepBasinSpec : ChangeSpec := { name := "fnStepBasin", fn := fun _ => fun
  | [d] => { results := [.lit (.bool true)], args := [d] }
  | _ => none }
def fnStepBasinRow : OpenClaim := { program := "ytfcgjiciobfncaa", sum := "934f03d133c855b0f4f47e0eacb5579a2b0029a0950de2829461cb2bc4b9f196", func := "loop.example/watershares/laws.FnStepBasin", spec := "fnStepBasin", apart := false }
def FnStepBasinSaid : Prop := fnStepBasinRow.holds Try.pinned (OpenSpec.ofChange fnStepBasinSpec)

/-- ITS FALSE NEIGHBOUR: 'it returns false'. Refute it at one input. -/
def fnStepBasinWrong : ChangeSpec := { name := "fnStepBasin", fn := fun _ => fun
  | [d] => { results := [.lit (.bool false)], args := [d] }
  | _ => none }
def FnStepBasinWrongFalsely : Prop := fnStepBasinRow.holds Try.pinned (OpenSpec.ofChange fnStepBasinWrong)

/-- 'laws.FnRunBasin': WHATEVER THE INPUT: true; the input reads as it did. -/
def fnRunBasinSpec : ChangeSpec := { name := "fnRunBasin", fn := fun _ => fun
  | [d] => { results := [.lit (.bool true)], args := [d] }
  | _ => none }
def fnRunBasinRow : OpenClaim := { program := "ytfcgjiciobfncaa", sum := "934f03d133c855b0f4f47e0eacb5579a2b0029a0950de2829461cb2bc4b9f196", func := "loop.example/watershares/laws.FnRunBasin", spec := "fnRunBasin", apart := false }
def FnRunBasinSaid : Prop := fnRunBasinRow.holds Try.pinned (OpenSpec.ofChange fnRunBasinSpec)

/-- ITS FALSE NEIGHBOUR: 'it returns false'. Refute it at one input. -/
def fnRunBasinWrong : ChangeSpec := { name := "fnRunBasin", fn := fun _ => fun
  | [d] => { results := [.lit (.bool false)], args := [d] }
  | _ => none }
def FnRunBasinWrongFalsely : Prop := fnRunBasinRow.holds Try.pinned (OpenSpec.ofChange fnRunBasinWrong)

/-- 'laws.FnRunBasinSum': WHATEVER THE INPUT: true; the input reads as it did. -/
def fnRunBasinSumSpec : ChangeSpec := { name := "fnRunBasinSum", fn := fun _ => fun
  | [d] => { results := [.lit (.bool true)], args := [d] }
  | _ => none }
def fnRunBasinSumRow : OpenClaim := { program := "ytfcgjiciobfncaa", sum := "934f03d133c855b0f4f47e0eacb5579a2b0029a0950de2829461cb2bc4b9f196", func := "loop.example/watershares/laws.FnRunBasinSum", spec := "fnRunBasinSum", apart := false }
def FnRunBasinSumSaid : Prop := fnRunBasinSumRow.holds Try.pinned (OpenSpec.ofChange fnRunBasinSumSpec)

/-- ITS FALSE NEIGHBOUR: 'it returns false'. Refute it at one input. -/
def fnRunBasinSumWrong : ChangeSpec := { name := "fnRunBasinSum", fn := fun _ => fun
  | [d] => { results := [.lit (.bool false)], args := [d] }
  | _ => none }
def FnRunBasinSumWrongFalsely : Prop := fnRunBasinSumRow.holds Try.pinned (OpenSpec.ofChange fnRunBasinSumWrong)

/-- 'laws.FnSpillsOf': WHATEVER THE INPUT: true; the input reads as it did. -/
def fnSpillsOfSpec : ChangeSpec := { name := "fnSpillsOf", fn := fun _ => fun
  | [d] => { results := [.lit (.bool true)], args := [d] }
  | _ => none }
def fnSpillsOfRow : OpenClaim := { program := "ytfcgjiciobfncaa", sum := "934f03d133c855b0f4f47e0eacb5579a2b0029a0950de2829461cb2bc4b9f196", func := "loop.example/watershares/laws.FnSpillsOf", spec := "fnSpillsOf", apart := false }
def FnSpillsOfSaid : Prop := fnSpillsOfRow.holds Try.pinned (OpenSpec.ofChange fnSpillsOfSpec)

/-- ITS FALSE NEIGHBOUR: 'it returns false'. Refute it at one input. -/
def fnSpillsOfWrong : ChangeSpec := { name := "fnSpillsOf", fn := fun _ => fun
  | [d] => { results := [.lit (.bool false)], args := [d] }
  | _ => none }
def FnSpillsOfWrongFalsely : Prop := fnSpillsOfRow.holds Try.pinned (OpenSpec.ofChange fnSpillsOfWrong)

/-- 'laws.FnShortOf': WHATEVER THE INPUT: true; the input reads as it did. -/
def fnShortOfSpec : ChangeSpec := { name := "fnShortOf", fn := fun _ => fun
  | [d] => { results := [.lit (.bool true)], args := [d] }
  | _ => none }
def fnShortOfRow : OpenClaim := { program := "ytfcgjiciobfncaa", sum := "934f03d133c855b0f4f47e0eacb5579a2b0029a0950de2829461cb2bc4b9f196", func := "loop.example/watershares/laws.FnShortOf", spec := "fnShortOf", apart := false }
def FnShortOfSaid : Prop := fnShortOfRow.holds Try.pinned (OpenSpec.ofChange fnShortOfSpec)

/-- ITS FALSE NEIGHBOUR: 'it returns false'. Refute it at one input. -/
def fnShortOfWrong : ChangeSpec := { name := "fnShortOf", fn := fun _ => fun
  | [d] => { results := [.lit (.bool false)], args := [d] }
  | _ => none }
def FnShortOfWrongFalsely : Prop := fnShortOfRow.holds Try.pinned (OpenSpec.ofChange fnShortOfWrong)

/-- 'laws.FnLeastRoom': WHATEVER THE INPUT: true; the input reads as it did. -/
def fnLeastRoomSpec : ChangeSpec := { name := "fnLeastRoom", fn := fun _ => fun
  | [d] => { results := [.lit (.bool true)], args := [d] }
  | _ => none }
def fnLeastRoomRow : OpenClaim := { program := "ytfcgjiciobfncaa", sum := "934f03d133c855b0f4f47e0eacb5579a2b0029a0950de2829461cb2bc4b9f196", func := "loop.example/watershares/laws.FnLeastRoom", spec := "fnLeastRoom", apart := false }
def FnLeastRoomSaid : Prop := fnLeastRoomRow.holds Try.pinned (OpenSpec.ofChange fnLeastRoomSpec)

/-- ITS FALSE NEIGHBOUR: 'it returns false'. Refute it at one input. -/
def fnLeastRoomWrong : ChangeSpec := { name := "fnLeastRoom", fn := fun _ => fun
  | [d] => { results := [.lit (.bool false)], args := [d] }
  | _ => none }
def FnLeastRoomWrongFalsely : Prop := fnLeastRoomRow.holds Try.pinned (OpenSpec.ofChange fnLeastRoomWrong)

/-- 'laws.FnLeastHeld': WHATEVER THE INPUT: true; the input reads as it did. -/
def fnLeastHeldSpec : ChangeSpec := { name := "fnLeastHeld", fn := fun _ => fun
  | [d] => { results := [.lit (.bool true)], args := [d] }
  | _ => none }
def fnLeastHeldRow : OpenClaim := { program := "ytfcgjiciobfncaa", sum := "934f03d133c855b0f4f47e0eacb5579a2b0029a0950de2829461cb2bc4b9f196", func := "loop.example/watershares/laws.FnLeastHeld", spec := "fnLeastHeld", apart := false }
def FnLeastHeldSaid : Prop := fnLeastHeldRow.holds Try.pinned (OpenSpec.ofChange fnLeastHeldSpec)

/-- ITS FALSE NEIGHBOUR: 'it returns false'. Refute it at one input. -/
def fnLeastHeldWrong : ChangeSpec := { name := "fnLeastHeld", fn := fun _ => fun
  | [d] => { results := [.lit (.bool false)], args := [d] }
  | _ => none }
def FnLeastHeldWrongFalsely : Prop := fnLeastHeldRow.holds Try.pinned (OpenSpec.ofChange fnLeastHeldWrong)

/-- 'laws.FnDeepestNeed': WHATEVER THE INPUT: true; the input reads as it did. -/
def fnDeepestNeedSpec : ChangeSpec := { name := "fnDeepestNeed", fn := fun _ => fun
  | [d] => { results := [.lit (.bool true)], args := [d] }
  | _ => none }
def fnDeepestNeedRow : OpenClaim := { program := "ytfcgjiciobfncaa", sum := "934f03d133c855b0f4f47e0eacb5579a2b0029a0950de2829461cb2bc4b9f196", func := "loop.example/watershares/laws.FnDeepestNeed", spec := "fnDeepestNeed", apart := false }
def FnDeepestNeedSaid : Prop := fnDeepestNeedRow.holds Try.pinned (OpenSpec.ofChange fnDeepestNeedSpec)

/-- ITS FALSE NEIGHBOUR: 'it returns false'. Refute it at one input. -/
def fnDeepestNeedWrong : ChangeSpec := { name := "fnDeepestNeed", fn := fun _ => fun
  | [d] => { results := [.lit (.bool false)], args := [d] }
  | _ => none }
def FnDeepestNeedWrongFalsely : Prop := fnDeepestNeedRow.holds Try.pinned (OpenSpec.ofChange fnDeepestNeedWrong)

/-- 'laws.FnDeepestNeedRoom': WHATEVER THE INPUT: true; the input reads as it did. -/
def fnDeepestNeedRoomSpec : ChangeSpec := { name := "fnDeepestNeedRoom", fn := fun _ => fun
  | [d] => { results := [.lit (.bool true)], args := [d] }
  | _ => none }
def fnDeepestNeedRoomRow : OpenClaim := { program := "ytfcgjiciobfncaa", sum := "934f03d133c855b0f4f47e0eacb5579a2b0029a0950de2829461cb2bc4b9f196", func := "loop.example/watershares/laws.FnDeepestNeedRoom", spec := "fnDeepestNeedRoom", apart := false }
def FnDeepestNeedRoomSaid : Prop := fnDeepestNeedRoomRow.holds Try.pinned (OpenSpec.ofChange fnDeepestNeedRoomSpec)

/-- ITS FALSE NEIGHBOUR: 'it returns false'. Refute it at one input. -/
def fnDeepestNeedRoomWrong : ChangeSpec := { name := "fnDeepestNeedRoom", fn := fun _ => fun
  | [d] => { results := [.lit (.bool false)], args := [d] }
  | _ => none }
def FnDeepestNeedRoomWrongFalsely : Prop := fnDeepestNeedRoomRow.holds Try.pinned (OpenSpec.ofChange fnDeepestNeedRoomWrong)

/-- 'laws.FnSureFlow': WHATEVER THE INPUT: true; the input reads as it did. -/
def fnSureFlowSpec : ChangeSpec := { name := "fnSureFlow", fn := fun _ => fun
  | [d] => { results := [.lit (.bool true)], args := [d] }
  | _ => none }
def fnSureFlowRow : OpenClaim := { program := "ytfcgjiciobfncaa", sum := "934f03d133c855b0f4f47e0eacb5579a2b0029a0950de2829461cb2bc4b9f196", func := "loop.example/watershares/laws.FnSureFlow", spec := "fnSureFlow", apart := false }
def FnSureFlowSaid : Prop := fnSureFlowRow.holds Try.pinned (OpenSpec.ofChange fnSureFlowSpec)

/-- ITS FALSE NEIGHBOUR: 'it returns false'. Refute it at one input. -/
def fnSureFlowWrong : ChangeSpec := { name := "fnSureFlow", fn := fun _ => fun
  | [d] => { results := [.lit (.bool false)], args := [d] }
  | _ => none }
def FnSureFlowWrongFalsely : Prop := fnSureFlowRow.holds Try.pinned (OpenSpec.ofChange fnSureFlowWrong)

/-- 'laws.FnSumsOf': WHATEVER THE INPUT: true; the input reads as it did. -/
def fnSumsOfSpec : ChangeSpec := { name := "fnSumsOf", fn := fun _ => fun
  | [d] => { results := [.lit (.bool true)], args := [d] }
  | _ => none }
def fnSumsOfRow : OpenClaim := { program := "ytfcgjiciobfncaa", sum := "934f03d133c855b0f4f47e0eacb5579a2b0029a0950de2829461cb2bc4b9f196", func := "loop.example/watershares/laws.FnSumsOf", spec := "fnSumsOf", apart := false }
def FnSumsOfSaid : Prop := fnSumsOfRow.holds Try.pinned (OpenSpec.ofChange fnSumsOfSpec)

/-- ITS FALSE NEIGHBOUR: 'it returns false'. Refute it at one input. -/
def fnSumsOfWrong : ChangeSpec := { name := "fnSumsOf", fn := fun _ => fun
  | [d] => { results := [.lit (.bool false)], args := [d] }
  | _ => none }
def FnSumsOfWrongFalsely : Prop := fnSumsOfRow.holds Try.pinned (OpenSpec.ofChange fnSumsOfWrong)

/-- 'laws.FnArriveAt': WHATEVER THE INPUT: true; the input reads as it did. -/
def fnArriveAtSpec : ChangeSpec := { name := "fnArriveAt", fn := fun _ => fun
  | [d] => { results := [.lit (.bool true)], args := [d] }
  | _ => none }
def fnArriveAtRow : OpenClaim := { program := "ytfcgjiciobfncaa", sum := "934f03d133c855b0f4f47e0eacb5579a2b0029a0950de2829461cb2bc4b9f196", func := "loop.example/watershares/laws.FnArriveAt", spec := "fnArriveAt", apart := false }
def FnArriveAtSaid : Prop := fnArriveAtRow.holds Try.pinned (OpenSpec.ofChange fnArriveAtSpec)

/-- ITS FALSE NEIGHBOUR: 'it returns false'. Refute it at one input. -/
def fnArriveAtWrong : ChangeSpec := { name := "fnArriveAt", fn := fun _ => fun
  | [d] => { results := [.lit (.bool false)], args := [d] }
  | _ => none }
def FnArriveAtWrongFalsely : Prop := fnArriveAtRow.holds Try.pinned (OpenSpec.ofChange fnArriveAtWrong)

/-- 'laws.FnArriveAtSum': WHATEVER THE INPUT: true; the input reads as it did. -/
def fnArriveAtSumSpec : ChangeSpec := { name := "fnArriveAtSum", fn := fun _ => fun
  | [d] => { results := [.lit (.bool true)], args := [d] }
  | _ => none }
def fnArriveAtSumRow : OpenClaim := { program := "ytfcgjiciobfncaa", sum := "934f03d133c855b0f4f47e0eacb5579a2b0029a0950de2829461cb2bc4b9f196", func := "loop.example/watershares/laws.FnArriveAtSum", spec := "fnArriveAtSum", apart := false }
def FnArriveAtSumSaid : Prop := fnArriveAtSumRow.holds Try.pinned (OpenSpec.ofChange fnArriveAtSumSpec)

/-- ITS FALSE NEIGHBOUR: 'it returns false'. Refute it at one input. -/
def fnArriveAtSumWrong : ChangeSpec := { name := "fnArriveAtSum", fn := fun _ => fun
  | [d] => { results := [.lit (.bool false)], args := [d] }
  | _ => none }
def FnArriveAtSumWrongFalsely : Prop := fnArriveAtSumRow.holds Try.pinned (OpenSpec.ofChange fnArriveAtSumWrong)

/- THE SECOND FORM. 'bulk': how many values and letters a reading holds, each counted each time it is reached (what is shared counts as often as it is met; a slice's spare places count too). A statement '..UptoSaid' is the law's where the arguments, and the package variables that the reading takes, are together of bulk at most 1048576: NARROWER than '..Said'. Prove '..Said' where nothing that the law and all that it calls make is longer than what came in: it says more and counts as full. Else prove '..UptoSaid'. A law counts once. -/
mutual
def uptoBulk {H : Type} : DataW H → Nat
  | .lit (.string bytes) => bytes.length + 1
  | .lit _ => 1
  | .nil => 1
  | .ptr d => uptoBulk d + 1
  | .slice elems spare => uptoBulkAll elems + uptoBulkAll spare + 1
  | .agg parts => uptoBulkAll parts + 1
  | .iface _ d => uptoBulk d + 1
  | .map entries => uptoBulkEntries entries + 1
  | .held _ => 1
def uptoBulkAll {H : Type} : List (DataW H) → Nat
  | [] => 0
  | d :: r => uptoBulk d + uptoBulkAll r
def uptoBulkEntries {H : Type} : List (Lit × DataW H) → Nat
  | [] => 0
  | x :: r => uptoBulkEntry x + uptoBulkEntries r
def uptoBulkEntry {H : Type} : Lit × DataW H → Nat
  | (.string bytes, d) => bytes.length + uptoBulk d + 1
  | (_, d) => uptoBulk d + 1
 end
def uptoSmall : (H : Type) → List (DataW H) → Bool := fun _ ds => decide (uptoBulkAll ds ≤ 1048576)
def OpenSpec.upto (s : _root_.Go.ChangeSpec) : _root_.Go.OpenSpec := { _root_.Go.OpenSpec.ofChange s with cond := some uptoSmall }

/-- 'laws.FnValidBasin', WHERE WHAT IT READS IS OF BULK AT MOST 1048576: true; the input reads as it did. -/
def fnValidBasinUptoRow : OpenClaim := { program := "ytfcgjiciobfncaa", sum := "934f03d133c855b0f4f47e0eacb5579a2b0029a0950de2829461cb2bc4b9f196", func := "loop.example/watershares/laws.FnValidBasin", spec := "fnValidBasin", apart := false, narrowed := true }
def FnValidBasinUptoSaid : Prop := fnValidBasinUptoRow.holds Try.pinned (OpenSpec.upto fnValidBasinSpec)

/-- 'laws.FnStepBasin', WHERE WHAT IT READS IS OF BULK AT MOST 1048576: true; the input reads as it did. -/
def fnStepBasinUptoRow : OpenClaim := { program := "ytfcgjiciobfncaa", sum := "934f03d133c855b0f4f47e0eacb5579a2b0029a0950de2829461cb2bc4b9f196", func := "loop.example/watershares/laws.FnStepBasin", spec := "fnStepBasin", apart := false, narrowed := true }
def FnStepBasinUptoSaid : Prop := fnStepBasinUptoRow.holds Try.pinned (OpenSpec.upto fnStepBasinSpec)

/-- 'laws.FnRunBasin', WHERE WHAT IT READS IS OF BULK AT MOST 1048576: true; the input reads as it did. -/
def fnRunBasinUptoRow : OpenClaim := { program := "ytfcgjiciobfncaa", sum := "934f03d133c855b0f4f47e0eacb5579a2b0029a0950de2829461cb2bc4b9f196", func := "loop.example/watershares/laws.FnRunBasin", spec := "fnRunBasin", apart := false, narrowed := true }
def FnRunBasinUptoSaid : Prop := fnRunBasinUptoRow.holds Try.pinned (OpenSpec.upto fnRunBasinSpec)

/-- 'laws.FnRunBasinSum', WHERE WHAT IT READS IS OF BULK AT MOST 1048576: true; the input reads as it did. -/
def fnRunBasinSumUptoRow : OpenClaim := { program := "ytfcgjiciobfncaa", sum := "934f03d133c855b0f4f47e0eacb5579a2b0029a0950de2829461cb2bc4b9f196", func := "loop.example/watershares/laws.FnRunBasinSum", spec := "fnRunBasinSum", apart := false, narrowed := true }
def FnRunBasinSumUptoSaid : Prop := fnRunBasinSumUptoRow.holds Try.pinned (OpenSpec.upto fnRunBasinSumSpec)

/-- 'laws.FnSpillsOf', WHERE WHAT IT READS IS OF BULK AT MOST 1048576: true; the input reads as it did. -/
def fnSpillsOfUptoRow : OpenClaim := { program := "ytfcgjiciobfncaa", sum := "934f03d133c855b0f4f47e0eacb5579a2b0029a0950de2829461cb2bc4b9f196", func := "loop.example/watershares/laws.FnSpillsOf", spec := "fnSpillsOf", apart := false, narrowed := true }
def FnSpillsOfUptoSaid : Prop := fnSpillsOfUptoRow.holds Try.pinned (OpenSpec.upto fnSpillsOfSpec)

/-- 'laws.FnShortOf', WHERE WHAT IT READS IS OF BULK AT MOST 1048576: true; the input reads as it did. -/
def fnShortOfUptoRow : OpenClaim := { program := "ytfcgjiciobfncaa", sum := "934f03d133c855b0f4f47e0eacb5579a2b0029a0950de2829461cb2bc4b9f196", func := "loop.example/watershares/laws.FnShortOf", spec := "fnShortOf", apart := false, narrowed := true }
def FnShortOfUptoSaid : Prop := fnShortOfUptoRow.holds Try.pinned (OpenSpec.upto fnShortOfSpec)

/-- 'laws.FnLeastRoom', WHERE WHAT IT READS IS OF BULK AT MOST 1048576: true; the input reads as it did. -/
def fnLeastRoomUptoRow : OpenClaim := { program := "ytfcgjiciobfncaa", sum := "934f03d133c855b0f4f47e0eacb5579a2b0029a0950de2829461cb2bc4b9f196", func := "loop.example/watershares/laws.FnLeastRoom", spec := "fnLeastRoom", apart := false, narrowed := true }
def FnLeastRoomUptoSaid : Prop := fnLeastRoomUptoRow.holds Try.pinned (OpenSpec.upto fnLeastRoomSpec)

/-- 'laws.FnLeastHeld', WHERE WHAT IT READS IS OF BULK AT MOST 1048576: true; the input reads as it did. -/
def fnLeastHeldUptoRow : OpenClaim := { program := "ytfcgjiciobfncaa", sum := "934f03d133c855b0f4f47e0eacb5579a2b0029a0950de2829461cb2bc4b9f196", func := "loop.example/watershares/laws.FnLeastHeld", spec := "fnLeastHeld", apart := false, narrowed := true }
def FnLeastHeldUptoSaid : Prop := fnLeastHeldUptoRow.holds Try.pinned (OpenSpec.upto fnLeastHeldSpec)

/-- 'laws.FnDeepestNeed', WHERE WHAT IT READS IS OF BULK AT MOST 1048576: true; the input reads as it did. -/
def fnDeepestNeedUptoRow : OpenClaim := { program := "ytfcgjiciobfncaa", sum := "934f03d133c855b0f4f47e0eacb5579a2b0029a0950de2829461cb2bc4b9f196", func := "loop.example/watershares/laws.FnDeepestNeed", spec := "fnDeepestNeed", apart := false, narrowed := true }
def FnDeepestNeedUptoSaid : Prop := fnDeepestNeedUptoRow.holds Try.pinned (OpenSpec.upto fnDeepestNeedSpec)

/-- 'laws.FnDeepestNeedRoom', WHERE WHAT IT READS IS OF BULK AT MOST 1048576: true; the input reads as it did. -/
def fnDeepestNeedRoomUptoRow : OpenClaim := { program := "ytfcgjiciobfncaa", sum := "934f03d133c855b0f4f47e0eacb5579a2b0029a0950de2829461cb2bc4b9f196", func := "loop.example/watershares/laws.FnDeepestNeedRoom", spec := "fnDeepestNeedRoom", apart := false, narrowed := true }
def FnDeepestNeedRoomUptoSaid : Prop := fnDeepestNeedRoomUptoRow.holds Try.pinned (OpenSpec.upto fnDeepestNeedRoomSpec)

/-- 'laws.FnSureFlow', WHERE WHAT IT READS IS OF BULK AT MOST 1048576: true; the input reads as it did. -/
def fnSureFlowUptoRow : OpenClaim := { program := "ytfcgjiciobfncaa", sum := "934f03d133c855b0f4f47e0eacb5579a2b0029a0950de2829461cb2bc4b9f196", func := "loop.example/watershares/laws.FnSureFlow", spec := "fnSureFlow", apart := false, narrowed := true }
def FnSureFlowUptoSaid : Prop := fnSureFlowUptoRow.holds Try.pinned (OpenSpec.upto fnSureFlowSpec)

/-- 'laws.FnSumsOf', WHERE WHAT IT READS IS OF BULK AT MOST 1048576: true; the input reads as it did. -/
def fnSumsOfUptoRow : OpenClaim := { program := "ytfcgjiciobfncaa", sum := "934f03d133c855b0f4f47e0eacb5579a2b0029a0950de2829461cb2bc4b9f196", func := "loop.example/watershares/laws.FnSumsOf", spec := "fnSumsOf", apart := false, narrowed := true }
def FnSumsOfUptoSaid : Prop := fnSumsOfUptoRow.holds Try.pinned (OpenSpec.upto fnSumsOfSpec)

/-- 'laws.FnArriveAt', WHERE WHAT IT READS IS OF BULK AT MOST 1048576: true; the input reads as it did. -/
def fnArriveAtUptoRow : OpenClaim := { program := "ytfcgjiciobfncaa", sum := "934f03d133c855b0f4f47e0eacb5579a2b0029a0950de2829461cb2bc4b9f196", func := "loop.example/watershares/laws.FnArriveAt", spec := "fnArriveAt", apart := false, narrowed := true }
def FnArriveAtUptoSaid : Prop := fnArriveAtUptoRow.holds Try.pinned (OpenSpec.upto fnArriveAtSpec)

/-- 'laws.FnArriveAtSum', WHERE WHAT IT READS IS OF BULK AT MOST 1048576: true; the input reads as it did. -/
def fnArriveAtSumUptoRow : OpenClaim := { program := "ytfcgjiciobfncaa", sum := "934f03d133c855b0f4f47e0eacb5579a2b0029a0950de2829461cb2bc4b9f196", func := "loop.example/watershares/laws.FnArriveAtSum", spec := "fnArriveAtSum", apart := false, narrowed := true }
def FnArriveAtSumUptoSaid : Prop := fnArriveAtSumUptoRow.holds Try.pinned (OpenSpec.upto fnArriveAtSumSpec)

end Rows
end Go.Proofs.Ytfcgjiciobfncaa
