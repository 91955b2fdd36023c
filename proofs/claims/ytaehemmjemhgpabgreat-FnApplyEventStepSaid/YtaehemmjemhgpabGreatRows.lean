/-
  No cell of these rows narrows 'for every input' (looked for: loops, veiled, ifaces, maps, wideKeys, modest, calm, conditions, laid).
  DERIVED. THE GIVEN ROWS OF THIS SEAT. 7 by the template 'for every input the law returns true; each argument reads behind the call as it read before'; 0 by the template 'total and deterministic' (their statements: YtaehemmjemhgpabGreatTotals.lean).
  GIVEN WITH THE SEED: the statements are not yours to turn. If you find one false, say at which input.
  Laid BY PROGRAM, IN A SANDBOX (cutbox-rows.mjs): the forced cells as the released guide's own fill.sh prints them over the translation e783d43ebb94d422… (all of the seat's roots in one cut). By AI agents, Wed Nov 11 2026. No macro, syntax, notation, axiom, sorry.
-/
import Derived.Test.YtaehemmjemhgpabGreatChecked
import GoSem.Claim
import GoSem.ClaimJoined
import GoSem.ClaimMapViews
import Derived.JoinedTies
import Derived.KernelRfl
namespace Go.Proofs.YtaehemmjemhgpabGreat
/- THE CELL 'sum', in the pinned program and in every row, IS THE sha256 OF THE DUMP (.gsa) THAT YtaehemmjemhgpabGreatProg.lean LOADS. Nothing in Lean hashes anything: it is a label: what it is worth is what the hold of that sum in a sandbox is worth. -/
noncomputable def Tryz.pinned : Pinned := { name := "ytaehemmjemhgpabgreat", sum := "e783d43ebb94d422c2ca30dba725d50e8dbe888da2c1e60668a527debc5f74a5", checked := Tryz.checked }
namespace Rows
def none {H : Type} : Left H := { results := [], args := [] }

/-- 'laws.FnApplyEvent': WHATEVER THE INPUT: true; the input reads as it did. -/
def fnApplyEventSpec : ChangeSpec := { name := "fnApplyEvent", fn := fun _ => fun
  | [d] => { results := [.lit (.bool true)], args := [d] }
  | _ => none }
def fnApplyEventRow : OpenClaim := { program := "ytaehemmjemhgpabgreat", sum := "e783d43ebb94d422c2ca30dba725d50e8dbe888da2c1e60668a527debc5f74a5", func := "loop.example/watershares/laws.FnApplyEvent", spec := "fnApplyEvent", apart := false }
def FnApplyEventSaid : Prop := fnApplyEventRow.holds Tryz.pinned (OpenSpec.ofChange fnApplyEventSpec)

/-- ITS FALSE NEIGHBOUR: 'it returns false'. Refute it at one input. -/
def fnApplyEventWrong : ChangeSpec := { name := "fnApplyEvent", fn := fun _ => fun
  | [d] => { results := [.lit (.bool false)], args := [d] }
  | _ => none }
def FnApplyEventWrongFalsely : Prop := fnApplyEventRow.holds Tryz.pinned (OpenSpec.ofChange fnApplyEventWrong)

/-- 'laws.FnApplyEventHour': WHATEVER THE INPUT: true; the input reads as it did. -/
def fnApplyEventHourSpec : ChangeSpec := { name := "fnApplyEventHour", fn := fun _ => fun
  | [d] => { results := [.lit (.bool true)], args := [d] }
  | _ => none }
def fnApplyEventHourRow : OpenClaim := { program := "ytaehemmjemhgpabgreat", sum := "e783d43ebb94d422c2ca30dba725d50e8dbe888da2c1e60668a527debc5f74a5", func := "loop.example/watershares/laws.FnApplyEventHour", spec := "fnApplyEventHour", apart := false }
def FnApplyEventHourSaid : Prop := fnApplyEventHourRow.holds Tryz.pinned (OpenSpec.ofChange fnApplyEventHourSpec)

/-- ITS FALSE NEIGHBOUR: 'it returns false'. Refute it at one input. -/
def fnApplyEventHourWrong : ChangeSpec := { name := "fnApplyEventHour", fn := fun _ => fun
  | [d] => { results := [.lit (.bool false)], args := [d] }
  | _ => none }
def FnApplyEventHourWrongFalsely : Prop := fnApplyEventHourRow.holds Tryz.pinned (OpenSpec.ofChange fnApplyEventHourWrong)

/-- 'laws.FnApplyEventStep': WHATEVER THE INPUT: true; the input reads as it did. -/
def fnApplyEventStepSpec : ChangeSpec := { name := "fnApplyEventStep", fn := fun _ => fun
  | [d] => { results := [.lit (.bool true)], args := [d] }
  | _ => none }
def fnApplyEventStepRow : OpenClaim := { program := "ytaehemmjemhgpabgreat", sum := "e783d43ebb94d422c2ca30dba725d50e8dbe888da2c1e60668a527debc5f74a5", func := "loop.example/watershares/laws.FnApplyEventStep", spec := "fnApplyEventStep", apart := false }
def FnApplyEventStepSaid : Prop := fnApplyEventStepRow.holds Tryz.pinned (OpenSpec.ofChange fnApplyEventStepSpec)

/-- ITS FALSE NEIGHBOUR: 'it returns false'. Refute it at one input. -/
def fnApplyEventStepWrong : ChangeSpec := { name := "fnApplyEventStep", fn := fun _ => fun
  | [d] => { results := [.lit (.bool false)], args := [d] }
  | _ => none }
def FnApplyEventStepWrongFalsely : Prop := fnApplyEventStepRow.holds Tryz.pinned (OpenSpec.ofChange fnApplyEventStepWrong)

/-- 'laws.FnExactRunBook': WHATEVER THE INPUT: true; the input reads as it did. -/
def fnExactRunBookSpec : ChangeSpec := { name := "fnExactRunBook", fn := fun _ => fun
  | [d1, d2] => { results := [.lit (.bool true)], args := [d1, d2] }
  | _ => none }
def fnExactRunBookRow : OpenClaim := { program := "ytaehemmjemhgpabgreat", sum := "e783d43ebb94d422c2ca30dba725d50e8dbe888da2c1e60668a527debc5f74a5", func := "loop.example/watershares/laws.FnExactRunBook", spec := "fnExactRunBook", apart := false }
def FnExactRunBookSaid : Prop := fnExactRunBookRow.holds Tryz.pinned (OpenSpec.ofChange fnExactRunBookSpec)

/-- ITS FALSE NEIGHBOUR: 'it returns false'. Refute it at one input. -/
def fnExactRunBookWrong : ChangeSpec := { name := "fnExactRunBook", fn := fun _ => fun
  | [d1, d2] => { results := [.lit (.bool false)], args := [d1, d2] }
  | _ => none }
def FnExactRunBookWrongFalsely : Prop := fnExactRunBookRow.holds Tryz.pinned (OpenSpec.ofChange fnExactRunBookWrong)

/-- 'laws.FnRunBook': WHATEVER THE INPUT: true; the input reads as it did. -/
def fnRunBookSpec : ChangeSpec := { name := "fnRunBook", fn := fun _ => fun
  | [d] => { results := [.lit (.bool true)], args := [d] }
  | _ => none }
def fnRunBookRow : OpenClaim := { program := "ytaehemmjemhgpabgreat", sum := "e783d43ebb94d422c2ca30dba725d50e8dbe888da2c1e60668a527debc5f74a5", func := "loop.example/watershares/laws.FnRunBook", spec := "fnRunBook", apart := false }
def FnRunBookSaid : Prop := fnRunBookRow.holds Tryz.pinned (OpenSpec.ofChange fnRunBookSpec)

/-- ITS FALSE NEIGHBOUR: 'it returns false'. Refute it at one input. -/
def fnRunBookWrong : ChangeSpec := { name := "fnRunBook", fn := fun _ => fun
  | [d] => { results := [.lit (.bool false)], args := [d] }
  | _ => none }
def FnRunBookWrongFalsely : Prop := fnRunBookRow.holds Tryz.pinned (OpenSpec.ofChange fnRunBookWrong)

/-- 'laws.FnRunBookWater': WHATEVER THE INPUT: true; the input reads as it did. -/
def fnRunBookWaterSpec : ChangeSpec := { name := "fnRunBookWater", fn := fun _ => fun
  | [d] => { results := [.lit (.bool true)], args := [d] }
  | _ => none }
def fnRunBookWaterRow : OpenClaim := { program := "ytaehemmjemhgpabgreat", sum := "e783d43ebb94d422c2ca30dba725d50e8dbe888da2c1e60668a527debc5f74a5", func := "loop.example/watershares/laws.FnRunBookWater", spec := "fnRunBookWater", apart := false }
def FnRunBookWaterSaid : Prop := fnRunBookWaterRow.holds Tryz.pinned (OpenSpec.ofChange fnRunBookWaterSpec)

/-- ITS FALSE NEIGHBOUR: 'it returns false'. Refute it at one input. -/
def fnRunBookWaterWrong : ChangeSpec := { name := "fnRunBookWater", fn := fun _ => fun
  | [d] => { results := [.lit (.bool false)], args := [d] }
  | _ => none }
def FnRunBookWaterWrongFalsely : Prop := fnRunBookWaterRow.holds Tryz.pinned (OpenSpec.ofChange fnRunBookWaterWrong)

/-- 'laws.FnRunBookLedger': WHATEVER THE INPUT: true; the input reads as it did. -/
def fnRunBookLedgerSpec : ChangeSpec := { name := "fnRunBookLedger", fn := fun _ => fun
  | [d] => { results := [.lit (.bool true)], args := [d] }
  | _ => none }
def fnRunBookLedgerRow : OpenClaim := { program := "ytaehemmjemhgpabgreat", sum := "e783d43ebb94d422c2ca30dba725d50e8dbe888da2c1e60668a527debc5f74a5", func := "loop.example/watershares/laws.FnRunBookLedger", spec := "fnRunBookLedger", apart := false }
def FnRunBookLedgerSaid : Prop := fnRunBookLedgerRow.holds Tryz.pinned (OpenSpec.ofChange fnRunBookLedgerSpec)

/-- ITS FALSE NEIGHBOUR: 'it returns false'. Refute it at one input. -/
def fnRunBookLedgerWrong : ChangeSpec := { name := "fnRunBookLedger", fn := fun _ => fun
  | [d] => { results := [.lit (.bool false)], args := [d] }
  | _ => none }
def FnRunBookLedgerWrongFalsely : Prop := fnRunBookLedgerRow.holds Tryz.pinned (OpenSpec.ofChange fnRunBookLedgerWrong)

/- THE SECOND FORM. 'bulk': how many values and letters a reading holds, each counted each time it is reached (what is shared counts as often as it is met; a slice's spare places count too). A statement '..UptoSaid' is the law's where the arguments, and the package variables that the reading takes, are together of bulk at most 1048576: NARROWER than '..Said'. Prove '..Said' where nothing that the law and all that it calls make is longer than what came in: it says more and counts as full. Else prove '..UptoSaid'. A law counts once. -/
mutual
def uptoBulk {H : Type} : DataW H → Nat
  | .lit (.string bytes) => bytes.length + 1
  | .lit _ => 1
  | .nil => 1
  | .ptr d => uptoBulk d + 1
  | .slice elems spare => uptoBulkAll elems + uptoBulkAll spare + 1
  | .agg parts => uptoBulkAll parts + 1
  | .iface _ d => uptoBulk d + 1
  | .map entries => uptoBulkEntries entries + 1
  | .held _ => 1
def uptoBulkAll {H : Type} : List (DataW H) → Nat
  | [] => 0
  | d :: r => uptoBulk d + uptoBulkAll r
def uptoBulkEntries {H : Type} : List (Lit × DataW H) → Nat
  | [] => 0
  | x :: r => uptoBulkEntry x + uptoBulkEntries r
def uptoBulkEntry {H : Type} : Lit × DataW H → Nat
  | (.string bytes, d) => bytes.length + uptoBulk d + 1
  | (_, d) => uptoBulk d + 1
 end
def uptoSmall : (H : Type) → List (DataW H) → Bool := fun _ ds => decide (uptoBulkAll ds ≤ 1048576)
def OpenSpec.upto (s : _root_.Go.ChangeSpec) : _root_.Go.OpenSpec := { _root_.Go.OpenSpec.ofChange s with cond := some uptoSmall }

/-- 'laws.FnApplyEvent', WHERE WHAT IT READS IS OF BULK AT MOST 1048576: true; the input reads as it did. -/
def fnApplyEventUptoRow : OpenClaim := { program := "ytaehemmjemhgpabgreat", sum := "e783d43ebb94d422c2ca30dba725d50e8dbe888da2c1e60668a527debc5f74a5", func := "loop.example/watershares/laws.FnApplyEvent", spec := "fnApplyEvent", apart := false, narrowed := true }
def FnApplyEventUptoSaid : Prop := fnApplyEventUptoRow.holds Tryz.pinned (OpenSpec.upto fnApplyEventSpec)

/-- 'laws.FnApplyEventHour', WHERE WHAT IT READS IS OF BULK AT MOST 1048576: true; the input reads as it did. -/
def fnApplyEventHourUptoRow : OpenClaim := { program := "ytaehemmjemhgpabgreat", sum := "e783d43ebb94d422c2ca30dba725d50e8dbe888da2c1e60668a527debc5f74a5", func := "loop.example/watershares/laws.FnApplyEventHour", spec := "fnApplyEventHour", apart := false, narrowed := true }
def FnApplyEventHourUptoSaid : Prop := fnApplyEventHourUptoRow.holds Tryz.pinned (OpenSpec.upto fnApplyEventHourSpec)

/-- 'laws.FnApplyEventStep', WHERE WHAT IT READS IS OF BULK AT MOST 1048576: true; the input reads as it did. -/
def fnApplyEventStepUptoRow : OpenClaim := { program := "ytaehemmjemhgpabgreat", sum := "e783d43ebb94d422c2ca30dba725d50e8dbe888da2c1e60668a527debc5f74a5", func := "loop.example/watershares/laws.FnApplyEventStep", spec := "fnApplyEventStep", apart := false, narrowed := true }
def FnApplyEventStepUptoSaid : Prop := fnApplyEventStepUptoRow.holds Tryz.pinned (OpenSpec.upto fnApplyEventStepSpec)

/-- 'laws.FnExactRunBook', WHERE WHAT IT READS IS OF BULK AT MOST 1048576: true; the input reads as it did. -/
def fnExactRunBookUptoRow : OpenClaim := { program := "ytaehemmjemhgpabgreat", sum := "e783d43ebb94d422c2ca30dba725d50e8dbe888da2c1e60668a527debc5f74a5", func := "loop.example/watershares/laws.FnExactRunBook", spec := "fnExactRunBook", apart := false, narrowed := true }
def FnExactRunBookUptoSaid : Prop := fnExactRunBookUptoRow.holds Tryz.pinned (OpenSpec.upto fnExactRunBookSpec)

/-- 'laws.FnRunBook', WHERE WHAT IT READS IS OF BULK AT MOST 1048576: true; the input reads as it did. -/
def fnRunBookUptoRow : OpenClaim := { program := "ytaehemmjemhgpabgreat", sum := "e783d43ebb94d422c2ca30dba725d50e8dbe888da2c1e60668a527debc5f74a5", func := "loop.example/watershares/laws.FnRunBook", spec := "fnRunBook", apart := false, narrowed := true }
def FnRunBookUptoSaid : Prop := fnRunBookUptoRow.holds Tryz.pinned (OpenSpec.upto fnRunBookSpec)

/-- 'laws.FnRunBookWater', WHERE WHAT IT READS IS OF BULK AT MOST 1048576: true; the input reads as it did. -/
def fnRunBookWaterUptoRow : OpenClaim := { program := "ytaehemmjemhgpabgreat", sum := "e783d43ebb94d422c2ca30dba725d50e8dbe888da2c1e60668a527debc5f74a5", func := "loop.example/watershares/laws.FnRunBookWater", spec := "fnRunBookWater", apart := false, narrowed := true }
def FnRunBookWaterUptoSaid : Prop := fnRunBookWaterUptoRow.holds Tryz.pinned (OpenSpec.upto fnRunBookWaterSpec)

/-- 'laws.FnRunBookLedger', WHERE WHAT IT READS IS OF BULK AT MOST 1048576: true; the input reads as it did. -/
def fnRunBookLedgerUptoRow : OpenClaim := { program := "ytaehemmjemhgpabgreat", sum := "e783d43ebb94d422c2ca30dba725d50e8dbe888da2c1e60668a527debc5f74a5", func := "loop.example/watershares/laws.FnRunBookLedger", spec := "fnRunBookLedger", apart := false, narrowed := true }
def FnRunBookLedgerUptoSaid : Prop := fnRunBookLedgerUptoRow.holds Tryz.pinned (OpenSpec.upto fnRunBookLedgerSpec)

end Rows
end Go.Proofs.YtaehemmjemhgpabGreat
