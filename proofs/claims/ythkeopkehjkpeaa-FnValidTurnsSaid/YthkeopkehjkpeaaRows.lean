/-
  No cell of these rows narrows 'for every input' (looked for: loops, veiled, ifaces, maps, wideKeys, modest, calm, conditions, laid).
  DERIVED. THE GIVEN ROWS OF THIS SEAT. 11 by the template 'for every input the law returns true; each argument reads behind the call as it read before'; 0 by the template 'total and deterministic' (their statements: YthkeopkehjkpeaaTotals.lean).
  GIVEN WITH THE SEED: the statements are not yours to turn. If you find one false, say at which input.
  Laid BY PROGRAM, IN A SANDBOX (cutbox-rows.mjs): the forced cells as the released guide's own fill.sh prints them over the translation 0ac77de6c795d5ba… (all of the seat's roots in one cut). By AI agents, Wed Nov 11 2026. No macro, syntax, notation, axiom, sorry.
-/
import Derived.Test.YthkeopkehjkpeaaChecked
import GoSem.Claim
import GoSem.ClaimJoined
import GoSem.ClaimMapViews
import Derived.JoinedTies
import Derived.KernelRfl
namespace Go.Proofs.Ythkeopkehjkpeaa
/- THE CELL 'sum', in the pinned program and in every row, IS THE sha256 OF THE DUMP (.gsa) THAT YthkeopkehjkpeaaProg.lean LOADS. Nothing in Lean hashes anything: it is a label: what it is worth is what the hold of that sum in a sandbox is worth. -/
noncomputable def Try.pinned : Pinned := { name := "ythkeopkehjkpeaa", sum := "0ac77de6c795d5ba3d8cb3cc2b61d8d50f2430beb7b6c37047c028f21460d246", checked := Try.checked }
namespace Rows
def none {H : Type} : Left H := { results := [], args := [] }

/-- 'laws.FnValidTurns': WHATEVER THE INPUT: true; the input reads as it did. -/
def fnValidTurnsSpec : ChangeSpec := { name := "fnValidTurns", fn := fun _ => fun
  | [d] => { results := [.lit (.bool true)], args := [d] }
  | _ => none }
def fnValidTurnsRow : OpenClaim := { program := "ythkeopkehjkpeaa", sum := "0ac77de6c795d5ba3d8cb3cc2b61d8d50f2430beb7b6c37047c028f21460d246", func := "loop.example/watershares/laws.FnValidTurns", spec := "fnValidTurns", apart := false }
def FnValidTurnsSaid : Prop := fnValidTurnsRow.holds Try.pinned (OpenSpec.ofChange fnValidTurnsSpec)

/-- ITS FALSE NEIGHBOUR: 'it returns false'. Refute it at one input. -/
def fnValidTurnsWrong : ChangeSpec := { name := "fnValidTurns", fn := fun _ => fun
  | [d] => { results := [.lit (.bool false)], args := [d] }
  | _ => none }
def FnValidTurnsWrongFalsely : Prop := fnValidTurnsRow.holds Try.pinned (OpenSpec.ofChange fnValidTurnsWrong)

/-- 'laws.FnPeriodOf': WHATEVER THE INPUT: true; the input reads as it did. -/
def fnPeriodOfSpec : ChangeSpec := { name := "fnPeriodOf", fn := fun _ => fun
  | [d] => { results := [.lit (.bool true)], args := [d] }
  | _ => none }
def fnPeriodOfRow : OpenClaim := { program := "ythkeopkehjkpeaa", sum := "0ac77de6c795d5ba3d8cb3cc2b61d8d50f2430beb7b6c37047c028f21460d246", func := "loop.example/watershares/laws.FnPeriodOf", spec := "fnPeriodOf", apart := false }
def FnPeriodOfSaid : Prop := fnPeriodOfRow.holds Try.pinned (OpenSpec.ofChange fnPeriodOfSpec)

/-- ITS FALSE NEIGHBOUR: 'it returns false'. Refute it at one input. -/
def fnPeriodOfWrong : ChangeSpec := { name := "fnPeriodOf", fn := fun _ => fun
  | [d] => { results := [.lit (.bool false)], args := [d] }
  | _ => none }
def FnPeriodOfWrongFalsely : Prop := fnPeriodOfRow.holds Try.pinned (OpenSpec.ofChange fnPeriodOfWrong)

/-- 'laws.FnWhoAt': WHATEVER THE INPUT: true; the input reads as it did. -/
def fnWhoAtSpec : ChangeSpec := { name := "fnWhoAt", fn := fun _ => fun
  | [d] => { results := [.lit (.bool true)], args := [d] }
  | _ => none }
def fnWhoAtRow : OpenClaim := { program := "ythkeopkehjkpeaa", sum := "0ac77de6c795d5ba3d8cb3cc2b61d8d50f2430beb7b6c37047c028f21460d246", func := "loop.example/watershares/laws.FnWhoAt", spec := "fnWhoAt", apart := false }
def FnWhoAtSaid : Prop := fnWhoAtRow.holds Try.pinned (OpenSpec.ofChange fnWhoAtSpec)

/-- ITS FALSE NEIGHBOUR: 'it returns false'. Refute it at one input. -/
def fnWhoAtWrong : ChangeSpec := { name := "fnWhoAt", fn := fun _ => fun
  | [d] => { results := [.lit (.bool false)], args := [d] }
  | _ => none }
def FnWhoAtWrongFalsely : Prop := fnWhoAtRow.holds Try.pinned (OpenSpec.ofChange fnWhoAtWrong)

/-- 'laws.FnStartOf': WHATEVER THE INPUT: true; the input reads as it did. -/
def fnStartOfSpec : ChangeSpec := { name := "fnStartOf", fn := fun _ => fun
  | [d] => { results := [.lit (.bool true)], args := [d] }
  | _ => none }
def fnStartOfRow : OpenClaim := { program := "ythkeopkehjkpeaa", sum := "0ac77de6c795d5ba3d8cb3cc2b61d8d50f2430beb7b6c37047c028f21460d246", func := "loop.example/watershares/laws.FnStartOf", spec := "fnStartOf", apart := false }
def FnStartOfSaid : Prop := fnStartOfRow.holds Try.pinned (OpenSpec.ofChange fnStartOfSpec)

/-- ITS FALSE NEIGHBOUR: 'it returns false'. Refute it at one input. -/
def fnStartOfWrong : ChangeSpec := { name := "fnStartOf", fn := fun _ => fun
  | [d] => { results := [.lit (.bool false)], args := [d] }
  | _ => none }
def FnStartOfWrongFalsely : Prop := fnStartOfRow.holds Try.pinned (OpenSpec.ofChange fnStartOfWrong)

/-- 'laws.FnNextHour': WHATEVER THE INPUT: true; the input reads as it did. -/
def fnNextHourSpec : ChangeSpec := { name := "fnNextHour", fn := fun _ => fun
  | [d] => { results := [.lit (.bool true)], args := [d] }
  | _ => none }
def fnNextHourRow : OpenClaim := { program := "ythkeopkehjkpeaa", sum := "0ac77de6c795d5ba3d8cb3cc2b61d8d50f2430beb7b6c37047c028f21460d246", func := "loop.example/watershares/laws.FnNextHour", spec := "fnNextHour", apart := false }
def FnNextHourSaid : Prop := fnNextHourRow.holds Try.pinned (OpenSpec.ofChange fnNextHourSpec)

/-- ITS FALSE NEIGHBOUR: 'it returns false'. Refute it at one input. -/
def fnNextHourWrong : ChangeSpec := { name := "fnNextHour", fn := fun _ => fun
  | [d] => { results := [.lit (.bool false)], args := [d] }
  | _ => none }
def FnNextHourWrongFalsely : Prop := fnNextHourRow.holds Try.pinned (OpenSpec.ofChange fnNextHourWrong)

/-- 'laws.FnHoursIn': WHATEVER THE INPUT: true; the input reads as it did. -/
def fnHoursInSpec : ChangeSpec := { name := "fnHoursIn", fn := fun _ => fun
  | [d] => { results := [.lit (.bool true)], args := [d] }
  | _ => none }
def fnHoursInRow : OpenClaim := { program := "ythkeopkehjkpeaa", sum := "0ac77de6c795d5ba3d8cb3cc2b61d8d50f2430beb7b6c37047c028f21460d246", func := "loop.example/watershares/laws.FnHoursIn", spec := "fnHoursIn", apart := false }
def FnHoursInSaid : Prop := fnHoursInRow.holds Try.pinned (OpenSpec.ofChange fnHoursInSpec)

/-- ITS FALSE NEIGHBOUR: 'it returns false'. Refute it at one input. -/
def fnHoursInWrong : ChangeSpec := { name := "fnHoursIn", fn := fun _ => fun
  | [d] => { results := [.lit (.bool false)], args := [d] }
  | _ => none }
def FnHoursInWrongFalsely : Prop := fnHoursInRow.holds Try.pinned (OpenSpec.ofChange fnHoursInWrong)

/-- 'laws.FnNightsIn': WHATEVER THE INPUT: true; the input reads as it did. -/
def fnNightsInSpec : ChangeSpec := { name := "fnNightsIn", fn := fun _ => fun
  | [d] => { results := [.lit (.bool true)], args := [d] }
  | _ => none }
def fnNightsInRow : OpenClaim := { program := "ythkeopkehjkpeaa", sum := "0ac77de6c795d5ba3d8cb3cc2b61d8d50f2430beb7b6c37047c028f21460d246", func := "loop.example/watershares/laws.FnNightsIn", spec := "fnNightsIn", apart := false }
def FnNightsInSaid : Prop := fnNightsInRow.holds Try.pinned (OpenSpec.ofChange fnNightsInSpec)

/-- ITS FALSE NEIGHBOUR: 'it returns false'. Refute it at one input. -/
def fnNightsInWrong : ChangeSpec := { name := "fnNightsIn", fn := fun _ => fun
  | [d] => { results := [.lit (.bool false)], args := [d] }
  | _ => none }
def FnNightsInWrongFalsely : Prop := fnNightsInRow.holds Try.pinned (OpenSpec.ofChange fnNightsInWrong)

/-- 'laws.FnEvenTime': WHATEVER THE INPUT: true; the input reads as it did. -/
def fnEvenTimeSpec : ChangeSpec := { name := "fnEvenTime", fn := fun _ => fun
  | [d] => { results := [.lit (.bool true)], args := [d] }
  | _ => none }
def fnEvenTimeRow : OpenClaim := { program := "ythkeopkehjkpeaa", sum := "0ac77de6c795d5ba3d8cb3cc2b61d8d50f2430beb7b6c37047c028f21460d246", func := "loop.example/watershares/laws.FnEvenTime", spec := "fnEvenTime", apart := false }
def FnEvenTimeSaid : Prop := fnEvenTimeRow.holds Try.pinned (OpenSpec.ofChange fnEvenTimeSpec)

/-- ITS FALSE NEIGHBOUR: 'it returns false'. Refute it at one input. -/
def fnEvenTimeWrong : ChangeSpec := { name := "fnEvenTime", fn := fun _ => fun
  | [d] => { results := [.lit (.bool false)], args := [d] }
  | _ => none }
def FnEvenTimeWrongFalsely : Prop := fnEvenTimeRow.holds Try.pinned (OpenSpec.ofChange fnEvenTimeWrong)

/-- 'laws.FnEvenTimeFair': WHATEVER THE INPUT: true; the input reads as it did. -/
def fnEvenTimeFairSpec : ChangeSpec := { name := "fnEvenTimeFair", fn := fun _ => fun
  | [d] => { results := [.lit (.bool true)], args := [d] }
  | _ => none }
def fnEvenTimeFairRow : OpenClaim := { program := "ythkeopkehjkpeaa", sum := "0ac77de6c795d5ba3d8cb3cc2b61d8d50f2430beb7b6c37047c028f21460d246", func := "loop.example/watershares/laws.FnEvenTimeFair", spec := "fnEvenTimeFair", apart := false }
def FnEvenTimeFairSaid : Prop := fnEvenTimeFairRow.holds Try.pinned (OpenSpec.ofChange fnEvenTimeFairSpec)

/-- ITS FALSE NEIGHBOUR: 'it returns false'. Refute it at one input. -/
def fnEvenTimeFairWrong : ChangeSpec := { name := "fnEvenTimeFair", fn := fun _ => fun
  | [d] => { results := [.lit (.bool false)], args := [d] }
  | _ => none }
def FnEvenTimeFairWrongFalsely : Prop := fnEvenTimeFairRow.holds Try.pinned (OpenSpec.ofChange fnEvenTimeFairWrong)

/-- 'laws.FnSwapTurns': WHATEVER THE INPUT: true; the input reads as it did. -/
def fnSwapTurnsSpec : ChangeSpec := { name := "fnSwapTurns", fn := fun _ => fun
  | [d] => { results := [.lit (.bool true)], args := [d] }
  | _ => none }
def fnSwapTurnsRow : OpenClaim := { program := "ythkeopkehjkpeaa", sum := "0ac77de6c795d5ba3d8cb3cc2b61d8d50f2430beb7b6c37047c028f21460d246", func := "loop.example/watershares/laws.FnSwapTurns", spec := "fnSwapTurns", apart := false }
def FnSwapTurnsSaid : Prop := fnSwapTurnsRow.holds Try.pinned (OpenSpec.ofChange fnSwapTurnsSpec)

/-- ITS FALSE NEIGHBOUR: 'it returns false'. Refute it at one input. -/
def fnSwapTurnsWrong : ChangeSpec := { name := "fnSwapTurns", fn := fun _ => fun
  | [d] => { results := [.lit (.bool false)], args := [d] }
  | _ => none }
def FnSwapTurnsWrongFalsely : Prop := fnSwapTurnsRow.holds Try.pinned (OpenSpec.ofChange fnSwapTurnsWrong)

/-- 'laws.FnMergeTurns': WHATEVER THE INPUT: true; the input reads as it did. -/
def fnMergeTurnsSpec : ChangeSpec := { name := "fnMergeTurns", fn := fun _ => fun
  | [d] => { results := [.lit (.bool true)], args := [d] }
  | _ => none }
def fnMergeTurnsRow : OpenClaim := { program := "ythkeopkehjkpeaa", sum := "0ac77de6c795d5ba3d8cb3cc2b61d8d50f2430beb7b6c37047c028f21460d246", func := "loop.example/watershares/laws.FnMergeTurns", spec := "fnMergeTurns", apart := false }
def FnMergeTurnsSaid : Prop := fnMergeTurnsRow.holds Try.pinned (OpenSpec.ofChange fnMergeTurnsSpec)

/-- ITS FALSE NEIGHBOUR: 'it returns false'. Refute it at one input. -/
def fnMergeTurnsWrong : ChangeSpec := { name := "fnMergeTurns", fn := fun _ => fun
  | [d] => { results := [.lit (.bool false)], args := [d] }
  | _ => none }
def FnMergeTurnsWrongFalsely : Prop := fnMergeTurnsRow.holds Try.pinned (OpenSpec.ofChange fnMergeTurnsWrong)

/- THE SECOND FORM. 'bulk': how many values and letters a reading holds, each counted each time it is reached (what is shared counts as often as it is met; a slice's spare places count too). A statement '..UptoSaid' is the law's where the arguments, and the package variables that the reading takes, are together of bulk at most 1048576: NARROWER than '..Said'. Prove '..Said' where nothing that the law and all that it calls make is longer than what came in: it says more and counts as full. Else prove '..UptoSaid'. A law counts once. -/
mutual
def uptoBulk {H : Type} : DataW H → Nat
  | .lit (.string bytes) => bytes.length + 1
  | .lit _ => 1
  | .nil => 1
  | .ptr d => uptoBulk d + 1
  | .slice elems spare => uptoBulkAll elems + uptoBulkAll spare + 1
  | .agg parts => uptoBulkAll parts + 1
  | .iface _ d => uptoBulk d + 1
  | .map entries => uptoBulkEntries entries + 1
  | .held _ => 1
def uptoBulkAll {H : Type} : List (DataW H) → Nat
  | [] => 0
  | d :: r => uptoBulk d + uptoBulkAll r
def uptoBulkEntries {H : Type} : List (Lit × DataW H) → Nat
  | [] => 0
  | x :: r => uptoBulkEntry x + uptoBulkEntries r
def uptoBulkEntry {H : Type} : Lit × DataW H → Nat
  | (.string bytes, d) => bytes.length + uptoBulk d + 1
  | (_, d) => uptoBulk d + 1
 end
def uptoSmall : (H : Type) → List (DataW H) → Bool := fun _ ds => decide (uptoBulkAll ds ≤ 1048576)
def OpenSpec.upto (s : _root_.Go.ChangeSpec) : _root_.Go.OpenSpec := { _root_.Go.OpenSpec.ofChange s with cond := some uptoSmall }

/-- 'laws.FnValidTurns', WHERE WHAT IT READS IS OF BULK AT MOST 1048576: true; the input reads as it did. -/
def fnValidTurnsUptoRow : OpenClaim := { program := "ythkeopkehjkpeaa", sum := "0ac77de6c795d5ba3d8cb3cc2b61d8d50f2430beb7b6c37047c028f21460d246", func := "loop.example/watershares/laws.FnValidTurns", spec := "fnValidTurns", apart := false, narrowed := true }
def FnValidTurnsUptoSaid : Prop := fnValidTurnsUptoRow.holds Try.pinned (OpenSpec.upto fnValidTurnsSpec)

/-- 'laws.FnPeriodOf', WHERE WHAT IT READS IS OF BULK AT MOST 1048576: true; the input reads as it did. -/
def fnPeriodOfUptoRow : OpenClaim := { program := "ythkeopkehjkpeaa", sum := "0ac77de6c795d5ba3d8cb3cc2b61d8d50f2430beb7b6c37047c028f21460d246", func := "loop.example/watershares/laws.FnPeriodOf", spec := "fnPeriodOf", apart := false, narrowed := true }
def FnPeriodOfUptoSaid : Prop := fnPeriodOfUptoRow.holds Try.pinned (OpenSpec.upto fnPeriodOfSpec)

/-- 'laws.FnWhoAt', WHERE WHAT IT READS IS OF BULK AT MOST 1048576: true; the input reads as it did. -/
def fnWhoAtUptoRow : OpenClaim := { program := "ythkeopkehjkpeaa", sum := "0ac77de6c795d5ba3d8cb3cc2b61d8d50f2430beb7b6c37047c028f21460d246", func := "loop.example/watershares/laws.FnWhoAt", spec := "fnWhoAt", apart := false, narrowed := true }
def FnWhoAtUptoSaid : Prop := fnWhoAtUptoRow.holds Try.pinned (OpenSpec.upto fnWhoAtSpec)

/-- 'laws.FnStartOf', WHERE WHAT IT READS IS OF BULK AT MOST 1048576: true; the input reads as it did. -/
def fnStartOfUptoRow : OpenClaim := { program := "ythkeopkehjkpeaa", sum := "0ac77de6c795d5ba3d8cb3cc2b61d8d50f2430beb7b6c37047c028f21460d246", func := "loop.example/watershares/laws.FnStartOf", spec := "fnStartOf", apart := false, narrowed := true }
def FnStartOfUptoSaid : Prop := fnStartOfUptoRow.holds Try.pinned (OpenSpec.upto fnStartOfSpec)

/-- 'laws.FnNextHour', WHERE WHAT IT READS IS OF BULK AT MOST 1048576: true; the input reads as it did. -/
def fnNextHourUptoRow : OpenClaim := { program := "ythkeopkehjkpeaa", sum := "0ac77de6c795d5ba3d8cb3cc2b61d8d50f2430beb7b6c37047c028f21460d246", func := "loop.example/watershares/laws.FnNextHour", spec := "fnNextHour", apart := false, narrowed := true }
def FnNextHourUptoSaid : Prop := fnNextHourUptoRow.holds Try.pinned (OpenSpec.upto fnNextHourSpec)

/-- 'laws.FnHoursIn', WHERE WHAT IT READS IS OF BULK AT MOST 1048576: true; the input reads as it did. -/
def fnHoursInUptoRow : OpenClaim := { program := "ythkeopkehjkpeaa", sum := "0ac77de6c795d5ba3d8cb3cc2b61d8d50f2430beb7b6c37047c028f21460d246", func := "loop.example/watershares/laws.FnHoursIn", spec := "fnHoursIn", apart := false, narrowed := true }
def FnHoursInUptoSaid : Prop := fnHoursInUptoRow.holds Try.pinned (OpenSpec.upto fnHoursInSpec)

/-- 'laws.FnNightsIn', WHERE WHAT IT READS IS OF BULK AT MOST 1048576: true; the input reads as it did. -/
def fnNightsInUptoRow : OpenClaim := { program := "ythkeopkehjkpeaa", sum := "0ac77de6c795d5ba3d8cb3cc2b61d8d50f2430beb7b6c37047c028f21460d246", func := "loop.example/watershares/laws.FnNightsIn", spec := "fnNightsIn", apart := false, narrowed := true }
def FnNightsInUptoSaid : Prop := fnNightsInUptoRow.holds Try.pinned (OpenSpec.upto fnNightsInSpec)

/-- 'laws.FnEvenTime', WHERE WHAT IT READS IS OF BULK AT MOST 1048576: true; the input reads as it did. -/
def fnEvenTimeUptoRow : OpenClaim := { program := "ythkeopkehjkpeaa", sum := "0ac77de6c795d5ba3d8cb3cc2b61d8d50f2430beb7b6c37047c028f21460d246", func := "loop.example/watershares/laws.FnEvenTime", spec := "fnEvenTime", apart := false, narrowed := true }
def FnEvenTimeUptoSaid : Prop := fnEvenTimeUptoRow.holds Try.pinned (OpenSpec.upto fnEvenTimeSpec)

/-- 'laws.FnEvenTimeFair', WHERE WHAT IT READS IS OF BULK AT MOST 1048576: true; the input reads as it did. -/
def fnEvenTimeFairUptoRow : OpenClaim := { program := "ythkeopkehjkpeaa", sum := "0ac77de6c795d5ba3d8cb3cc2b61d8d50f2430beb7b6c37047c028f21460d246", func := "loop.example/watershares/laws.FnEvenTimeFair", spec := "fnEvenTimeFair", apart := false, narrowed := true }
def FnEvenTimeFairUptoSaid : Prop := fnEvenTimeFairUptoRow.holds Try.pinned (OpenSpec.upto fnEvenTimeFairSpec)

/-- 'laws.FnSwapTurns', WHERE WHAT IT READS IS OF BULK AT MOST 1048576: true; the input reads as it did. -/
def fnSwapTurnsUptoRow : OpenClaim := { program := "ythkeopkehjkpeaa", sum := "0ac77de6c795d5ba3d8cb3cc2b61d8d50f2430beb7b6c37047c028f21460d246", func := "loop.example/watershares/laws.FnSwapTurns", spec := "fnSwapTurns", apart := false, narrowed := true }
def FnSwapTurnsUptoSaid : Prop := fnSwapTurnsUptoRow.holds Try.pinned (OpenSpec.upto fnSwapTurnsSpec)

/-- 'laws.FnMergeTurns', WHERE WHAT IT READS IS OF BULK AT MOST 1048576: true; the input reads as it did. -/
def fnMergeTurnsUptoRow : OpenClaim := { program := "ythkeopkehjkpeaa", sum := "0ac77de6c795d5ba3d8cb3cc2b61d8d50f2430beb7b6c37047c028f21460d246", func := "loop.example/watershares/laws.FnMergeTurns", spec := "fnMergeTurns", apart := false, narrowed := true }
def FnMergeTurnsUptoSaid : Prop := fnMergeTurnsUptoRow.holds Try.pinned (OpenSpec.upto fnMergeTurnsSpec)

end Rows
end Go.Proofs.Ythkeopkehjkpeaa
