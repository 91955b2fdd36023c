/-
  No cell of these rows narrows 'for every input' (looked for: loops, veiled, ifaces, maps, wideKeys, modest, calm, conditions, laid).
  DERIVED. THE GIVEN ROWS OF THIS SEAT. 10 by the template 'for every input the law returns true; each argument reads behind the call as it read before'; 0 by the template 'total and deterministic' (their statements: YtjnhdabgbpkbhaaTotals.lean).
  GIVEN WITH THE SEED: the statements are not yours to turn. If you find one false, say at which input.
  Laid BY PROGRAM, IN A SANDBOX (cutbox-rows.mjs): the forced cells as the released guide's own fill.sh prints them over the translation 11bc78034e638bbf… (all of the seat's roots in one cut). By AI agents, Wed Nov 11 2026. No macro, syntax, notation, axiom, sorry.
-/
import Derived.Test.YtjnhdabgbpkbhaaChecked
import GoSem.Claim
import GoSem.ClaimJoined
import GoSem.ClaimMapViews
import Derived.JoinedTies
import Derived.KernelRfl
namespace Go.Proofs.Ytjnhdabgbpkbhaa
/- THE CELL 'sum', in the pinned program and in every row, IS THE sha256 OF THE DUMP (.gsa) THAT YtjnhdabgbpkbhaaProg.lean LOADS. Nothing in Lean hashes anything: it is a label: what it is worth is what the hold of that sum in a sandbox is worth. -/
noncomputable def Try.pinned : Pinned := { name := "ytjnhdabgbpkbhaa", sum := "11bc78034e638bbf0a497570d8bef3128ec5637f220eabfb75ce14e79deb2114", checked := Try.checked }
namespace Rows
def none {H : Type} : Left H := { results := [], args := [] }

/-- 'laws.FnExactValidTurns': WHATEVER THE INPUT: true; the input reads as it did. -/
def fnExactValidTurnsSpec : ChangeSpec := { name := "fnExactValidTurns", fn := fun _ => fun
  | [d] => { results := [.lit (.bool true)], args := [d] }
  | _ => none }
def fnExactValidTurnsRow : OpenClaim := { program := "ytjnhdabgbpkbhaa", sum := "11bc78034e638bbf0a497570d8bef3128ec5637f220eabfb75ce14e79deb2114", func := "loop.example/watershares/laws.FnExactValidTurns", spec := "fnExactValidTurns", apart := false }
def FnExactValidTurnsSaid : Prop := fnExactValidTurnsRow.holds Try.pinned (OpenSpec.ofChange fnExactValidTurnsSpec)

/-- ITS FALSE NEIGHBOUR: 'it returns false'. Refute it at one input. -/
def fnExactValidTurnsWrong : ChangeSpec := { name := "fnExactValidTurns", fn := fun _ => fun
  | [d] => { results := [.lit (.bool false)], args := [d] }
  | _ => none }
def FnExactValidTurnsWrongFalsely : Prop := fnExactValidTurnsRow.holds Try.pinned (OpenSpec.ofChange fnExactValidTurnsWrong)

/-- 'laws.FnExactPeriodOf': WHATEVER THE INPUT: true; the input reads as it did. -/
def fnExactPeriodOfSpec : ChangeSpec := { name := "fnExactPeriodOf", fn := fun _ => fun
  | [d] => { results := [.lit (.bool true)], args := [d] }
  | _ => none }
def fnExactPeriodOfRow : OpenClaim := { program := "ytjnhdabgbpkbhaa", sum := "11bc78034e638bbf0a497570d8bef3128ec5637f220eabfb75ce14e79deb2114", func := "loop.example/watershares/laws.FnExactPeriodOf", spec := "fnExactPeriodOf", apart := false }
def FnExactPeriodOfSaid : Prop := fnExactPeriodOfRow.holds Try.pinned (OpenSpec.ofChange fnExactPeriodOfSpec)

/-- ITS FALSE NEIGHBOUR: 'it returns false'. Refute it at one input. -/
def fnExactPeriodOfWrong : ChangeSpec := { name := "fnExactPeriodOf", fn := fun _ => fun
  | [d] => { results := [.lit (.bool false)], args := [d] }
  | _ => none }
def FnExactPeriodOfWrongFalsely : Prop := fnExactPeriodOfRow.holds Try.pinned (OpenSpec.ofChange fnExactPeriodOfWrong)

/-- 'laws.FnExactWhoAt': WHATEVER THE INPUT: true; the input reads as it did. -/
def fnExactWhoAtSpec : ChangeSpec := { name := "fnExactWhoAt", fn := fun _ => fun
  | [d1, d2] => { results := [.lit (.bool true)], args := [d1, d2] }
  | _ => none }
def fnExactWhoAtRow : OpenClaim := { program := "ytjnhdabgbpkbhaa", sum := "11bc78034e638bbf0a497570d8bef3128ec5637f220eabfb75ce14e79deb2114", func := "loop.example/watershares/laws.FnExactWhoAt", spec := "fnExactWhoAt", apart := false }
def FnExactWhoAtSaid : Prop := fnExactWhoAtRow.holds Try.pinned (OpenSpec.ofChange fnExactWhoAtSpec)

/-- ITS FALSE NEIGHBOUR: 'it returns false'. Refute it at one input. -/
def fnExactWhoAtWrong : ChangeSpec := { name := "fnExactWhoAt", fn := fun _ => fun
  | [d1, d2] => { results := [.lit (.bool false)], args := [d1, d2] }
  | _ => none }
def FnExactWhoAtWrongFalsely : Prop := fnExactWhoAtRow.holds Try.pinned (OpenSpec.ofChange fnExactWhoAtWrong)

/-- 'laws.FnExactStartOf': WHATEVER THE INPUT: true; the input reads as it did. -/
def fnExactStartOfSpec : ChangeSpec := { name := "fnExactStartOf", fn := fun _ => fun
  | [d1, d2] => { results := [.lit (.bool true)], args := [d1, d2] }
  | _ => none }
def fnExactStartOfRow : OpenClaim := { program := "ytjnhdabgbpkbhaa", sum := "11bc78034e638bbf0a497570d8bef3128ec5637f220eabfb75ce14e79deb2114", func := "loop.example/watershares/laws.FnExactStartOf", spec := "fnExactStartOf", apart := false }
def FnExactStartOfSaid : Prop := fnExactStartOfRow.holds Try.pinned (OpenSpec.ofChange fnExactStartOfSpec)

/-- ITS FALSE NEIGHBOUR: 'it returns false'. Refute it at one input. -/
def fnExactStartOfWrong : ChangeSpec := { name := "fnExactStartOf", fn := fun _ => fun
  | [d1, d2] => { results := [.lit (.bool false)], args := [d1, d2] }
  | _ => none }
def FnExactStartOfWrongFalsely : Prop := fnExactStartOfRow.holds Try.pinned (OpenSpec.ofChange fnExactStartOfWrong)

/-- 'laws.FnExactNextHour': WHATEVER THE INPUT: true; the input reads as it did. -/
def fnExactNextHourSpec : ChangeSpec := { name := "fnExactNextHour", fn := fun _ => fun
  | [d1, d2, d3] => { results := [.lit (.bool true)], args := [d1, d2, d3] }
  | _ => none }
def fnExactNextHourRow : OpenClaim := { program := "ytjnhdabgbpkbhaa", sum := "11bc78034e638bbf0a497570d8bef3128ec5637f220eabfb75ce14e79deb2114", func := "loop.example/watershares/laws.FnExactNextHour", spec := "fnExactNextHour", apart := false }
def FnExactNextHourSaid : Prop := fnExactNextHourRow.holds Try.pinned (OpenSpec.ofChange fnExactNextHourSpec)

/-- ITS FALSE NEIGHBOUR: 'it returns false'. Refute it at one input. -/
def fnExactNextHourWrong : ChangeSpec := { name := "fnExactNextHour", fn := fun _ => fun
  | [d1, d2, d3] => { results := [.lit (.bool false)], args := [d1, d2, d3] }
  | _ => none }
def FnExactNextHourWrongFalsely : Prop := fnExactNextHourRow.holds Try.pinned (OpenSpec.ofChange fnExactNextHourWrong)

/-- 'laws.FnExactHoursIn': WHATEVER THE INPUT: true; the input reads as it did. -/
def fnExactHoursInSpec : ChangeSpec := { name := "fnExactHoursIn", fn := fun _ => fun
  | [d1, d2, d3, d4] => { results := [.lit (.bool true)], args := [d1, d2, d3, d4] }
  | _ => none }
def fnExactHoursInRow : OpenClaim := { program := "ytjnhdabgbpkbhaa", sum := "11bc78034e638bbf0a497570d8bef3128ec5637f220eabfb75ce14e79deb2114", func := "loop.example/watershares/laws.FnExactHoursIn", spec := "fnExactHoursIn", apart := false }
def FnExactHoursInSaid : Prop := fnExactHoursInRow.holds Try.pinned (OpenSpec.ofChange fnExactHoursInSpec)

/-- ITS FALSE NEIGHBOUR: 'it returns false'. Refute it at one input. -/
def fnExactHoursInWrong : ChangeSpec := { name := "fnExactHoursIn", fn := fun _ => fun
  | [d1, d2, d3, d4] => { results := [.lit (.bool false)], args := [d1, d2, d3, d4] }
  | _ => none }
def FnExactHoursInWrongFalsely : Prop := fnExactHoursInRow.holds Try.pinned (OpenSpec.ofChange fnExactHoursInWrong)

/-- 'laws.FnExactNightsIn': WHATEVER THE INPUT: true; the input reads as it did. -/
def fnExactNightsInSpec : ChangeSpec := { name := "fnExactNightsIn", fn := fun _ => fun
  | [d1, d2, d3, d4] => { results := [.lit (.bool true)], args := [d1, d2, d3, d4] }
  | _ => none }
def fnExactNightsInRow : OpenClaim := { program := "ytjnhdabgbpkbhaa", sum := "11bc78034e638bbf0a497570d8bef3128ec5637f220eabfb75ce14e79deb2114", func := "loop.example/watershares/laws.FnExactNightsIn", spec := "fnExactNightsIn", apart := false }
def FnExactNightsInSaid : Prop := fnExactNightsInRow.holds Try.pinned (OpenSpec.ofChange fnExactNightsInSpec)

/-- ITS FALSE NEIGHBOUR: 'it returns false'. Refute it at one input. -/
def fnExactNightsInWrong : ChangeSpec := { name := "fnExactNightsIn", fn := fun _ => fun
  | [d1, d2, d3, d4] => { results := [.lit (.bool false)], args := [d1, d2, d3, d4] }
  | _ => none }
def FnExactNightsInWrongFalsely : Prop := fnExactNightsInRow.holds Try.pinned (OpenSpec.ofChange fnExactNightsInWrong)

/-- 'laws.FnExactEvenTime': WHATEVER THE INPUT: true; the input reads as it did. -/
def fnExactEvenTimeSpec : ChangeSpec := { name := "fnExactEvenTime", fn := fun _ => fun
  | [d] => { results := [.lit (.bool true)], args := [d] }
  | _ => none }
def fnExactEvenTimeRow : OpenClaim := { program := "ytjnhdabgbpkbhaa", sum := "11bc78034e638bbf0a497570d8bef3128ec5637f220eabfb75ce14e79deb2114", func := "loop.example/watershares/laws.FnExactEvenTime", spec := "fnExactEvenTime", apart := false }
def FnExactEvenTimeSaid : Prop := fnExactEvenTimeRow.holds Try.pinned (OpenSpec.ofChange fnExactEvenTimeSpec)

/-- ITS FALSE NEIGHBOUR: 'it returns false'. Refute it at one input. -/
def fnExactEvenTimeWrong : ChangeSpec := { name := "fnExactEvenTime", fn := fun _ => fun
  | [d] => { results := [.lit (.bool false)], args := [d] }
  | _ => none }
def FnExactEvenTimeWrongFalsely : Prop := fnExactEvenTimeRow.holds Try.pinned (OpenSpec.ofChange fnExactEvenTimeWrong)

/-- 'laws.FnExactSwapTurns': WHATEVER THE INPUT: true; the input reads as it did. -/
def fnExactSwapTurnsSpec : ChangeSpec := { name := "fnExactSwapTurns", fn := fun _ => fun
  | [d1, d2, d3] => { results := [.lit (.bool true)], args := [d1, d2, d3] }
  | _ => none }
def fnExactSwapTurnsRow : OpenClaim := { program := "ytjnhdabgbpkbhaa", sum := "11bc78034e638bbf0a497570d8bef3128ec5637f220eabfb75ce14e79deb2114", func := "loop.example/watershares/laws.FnExactSwapTurns", spec := "fnExactSwapTurns", apart := false }
def FnExactSwapTurnsSaid : Prop := fnExactSwapTurnsRow.holds Try.pinned (OpenSpec.ofChange fnExactSwapTurnsSpec)

/-- ITS FALSE NEIGHBOUR: 'it returns false'. Refute it at one input. -/
def fnExactSwapTurnsWrong : ChangeSpec := { name := "fnExactSwapTurns", fn := fun _ => fun
  | [d1, d2, d3] => { results := [.lit (.bool false)], args := [d1, d2, d3] }
  | _ => none }
def FnExactSwapTurnsWrongFalsely : Prop := fnExactSwapTurnsRow.holds Try.pinned (OpenSpec.ofChange fnExactSwapTurnsWrong)

/-- 'laws.FnExactMergeTurns': WHATEVER THE INPUT: true; the input reads as it did. -/
def fnExactMergeTurnsSpec : ChangeSpec := { name := "fnExactMergeTurns", fn := fun _ => fun
  | [d] => { results := [.lit (.bool true)], args := [d] }
  | _ => none }
def fnExactMergeTurnsRow : OpenClaim := { program := "ytjnhdabgbpkbhaa", sum := "11bc78034e638bbf0a497570d8bef3128ec5637f220eabfb75ce14e79deb2114", func := "loop.example/watershares/laws.FnExactMergeTurns", spec := "fnExactMergeTurns", apart := false }
def FnExactMergeTurnsSaid : Prop := fnExactMergeTurnsRow.holds Try.pinned (OpenSpec.ofChange fnExactMergeTurnsSpec)

/-- ITS FALSE NEIGHBOUR: 'it returns false'. Refute it at one input. -/
def fnExactMergeTurnsWrong : ChangeSpec := { name := "fnExactMergeTurns", fn := fun _ => fun
  | [d] => { results := [.lit (.bool false)], args := [d] }
  | _ => none }
def FnExactMergeTurnsWrongFalsely : Prop := fnExactMergeTurnsRow.holds Try.pinned (OpenSpec.ofChange fnExactMergeTurnsWrong)

/- THE SECOND FORM. 'bulk': how many values and letters a reading holds, each counted each time it is reached (what is shared counts as often as it is met; a slice's spare places count too). A statement '..UptoSaid' is the law's where the arguments, and the package variables that the reading takes, are together of bulk at most 1048576: NARROWER than '..Said'. Prove '..Said' where nothing that the law and all that it calls make is longer than what came in: it says more and counts as full. Else prove '..UptoSaid'. A law counts once. -/
mutual
def uptoBulk {H : Type} : DataW H → Nat
  | .lit (.string bytes) => bytes.length + 1
  | .lit _ => 1
  | .nil => 1
  | .ptr d => uptoBulk d + 1
  | .slice elems spare => uptoBulkAll elems + uptoBulkAll spare + 1
  | .agg parts => uptoBulkAll parts + 1
  | .iface _ d => uptoBulk d + 1
  | .map entries => uptoBulkEntries entries + 1
  | .held _ => 1
def uptoBulkAll {H : Type} : List (DataW H) → Nat
  | [] => 0
  | d :: r => uptoBulk d + uptoBulkAll r
def uptoBulkEntries {H : Type} : List (Lit × DataW H) → Nat
  | [] => 0
  | x :: r => uptoBulkEntry x + uptoBulkEntries r
def uptoBulkEntry {H : Type} : Lit × DataW H → Nat
  | (.string bytes, d) => bytes.length + uptoBulk d + 1
  | (_, d) => uptoBulk d + 1
 end
def uptoSmall : (H : Type) → List (DataW H) → Bool := fun _ ds => decide (uptoBulkAll ds ≤ 1048576)
def OpenSpec.upto (s : _root_.Go.ChangeSpec) : _root_.Go.OpenSpec := { _root_.Go.OpenSpec.ofChange s with cond := some uptoSmall }

/-- 'laws.FnExactValidTurns', WHERE WHAT IT READS IS OF BULK AT MOST 1048576: true; the input reads as it did. -/
def fnExactValidTurnsUptoRow : OpenClaim := { program := "ytjnhdabgbpkbhaa", sum := "11bc78034e638bbf0a497570d8bef3128ec5637f220eabfb75ce14e79deb2114", func := "loop.example/watershares/laws.FnExactValidTurns", spec := "fnExactValidTurns", apart := false, narrowed := true }
def FnExactValidTurnsUptoSaid : Prop := fnExactValidTurnsUptoRow.holds Try.pinned (OpenSpec.upto fnExactValidTurnsSpec)

/-- 'laws.FnExactPeriodOf', WHERE WHAT IT READS IS OF BULK AT MOST 1048576: true; the input reads as it did. -/
def fnExactPeriodOfUptoRow : OpenClaim := { program := "ytjnhdabgbpkbhaa", sum := "11bc78034e638bbf0a497570d8bef3128ec5637f220eabfb75ce14e79deb2114", func := "loop.example/watershares/laws.FnExactPeriodOf", spec := "fnExactPeriodOf", apart := false, narrowed := true }
def FnExactPeriodOfUptoSaid : Prop := fnExactPeriodOfUptoRow.holds Try.pinned (OpenSpec.upto fnExactPeriodOfSpec)

/-- 'laws.FnExactWhoAt', WHERE WHAT IT READS IS OF BULK AT MOST 1048576: true; the input reads as it did. -/
def fnExactWhoAtUptoRow : OpenClaim := { program := "ytjnhdabgbpkbhaa", sum := "11bc78034e638bbf0a497570d8bef3128ec5637f220eabfb75ce14e79deb2114", func := "loop.example/watershares/laws.FnExactWhoAt", spec := "fnExactWhoAt", apart := false, narrowed := true }
def FnExactWhoAtUptoSaid : Prop := fnExactWhoAtUptoRow.holds Try.pinned (OpenSpec.upto fnExactWhoAtSpec)

/-- 'laws.FnExactStartOf', WHERE WHAT IT READS IS OF BULK AT MOST 1048576: true; the input reads as it did. -/
def fnExactStartOfUptoRow : OpenClaim := { program := "ytjnhdabgbpkbhaa", sum := "11bc78034e638bbf0a497570d8bef3128ec5637f220eabfb75ce14e79deb2114", func := "loop.example/watershares/laws.FnExactStartOf", spec := "fnExactStartOf", apart := false, narrowed := true }
def FnExactStartOfUptoSaid : Prop := fnExactStartOfUptoRow.holds Try.pinned (OpenSpec.upto fnExactStartOfSpec)

/-- 'laws.FnExactNextHour', WHERE WHAT IT READS IS OF BULK AT MOST 1048576: true; the input reads as it did. -/
def fnExactNextHourUptoRow : OpenClaim := { program := "ytjnhdabgbpkbhaa", sum := "11bc78034e638bbf0a497570d8bef3128ec5637f220eabfb75ce14e79deb2114", func := "loop.example/watershares/laws.FnExactNextHour", spec := "fnExactNextHour", apart := false, narrowed := true }
def FnExactNextHourUptoSaid : Prop := fnExactNextHourUptoRow.holds Try.pinned (OpenSpec.upto fnExactNextHourSpec)

/-- 'laws.FnExactHoursIn', WHERE WHAT IT READS IS OF BULK AT MOST 1048576: true; the input reads as it did. -/
def fnExactHoursInUptoRow : OpenClaim := { program := "ytjnhdabgbpkbhaa", sum := "11bc78034e638bbf0a497570d8bef3128ec5637f220eabfb75ce14e79deb2114", func := "loop.example/watershares/laws.FnExactHoursIn", spec := "fnExactHoursIn", apart := false, narrowed := true }
def FnExactHoursInUptoSaid : Prop := fnExactHoursInUptoRow.holds Try.pinned (OpenSpec.upto fnExactHoursInSpec)

/-- 'laws.FnExactNightsIn', WHERE WHAT IT READS IS OF BULK AT MOST 1048576: true; the input reads as it did. -/
def fnExactNightsInUptoRow : OpenClaim := { program := "ytjnhdabgbpkbhaa", sum := "11bc78034e638bbf0a497570d8bef3128ec5637f220eabfb75ce14e79deb2114", func := "loop.example/watershares/laws.FnExactNightsIn", spec := "fnExactNightsIn", apart := false, narrowed := true }
def FnExactNightsInUptoSaid : Prop := fnExactNightsInUptoRow.holds Try.pinned (OpenSpec.upto fnExactNightsInSpec)

/-- 'laws.FnExactEvenTime', WHERE WHAT IT READS IS OF BULK AT MOST 1048576: true; the input reads as it did. -/
def fnExactEvenTimeUptoRow : OpenClaim := { program := "ytjnhdabgbpkbhaa", sum := "11bc78034e638bbf0a497570d8bef3128ec5637f220eabfb75ce14e79deb2114", func := "loop.example/watershares/laws.FnExactEvenTime", spec := "fnExactEvenTime", apart := false, narrowed := true }
def FnExactEvenTimeUptoSaid : Prop := fnExactEvenTimeUptoRow.holds Try.pinned (OpenSpec.upto fnExactEvenTimeSpec)

/-- 'laws.FnExactSwapTurns', WHERE WHAT IT READS IS OF BULK AT MOST 1048576: true; the input reads as it did. -/
def fnExactSwapTurnsUptoRow : OpenClaim := { program := "ytjnhdabgbpkbhaa", sum := "11bc78034e638bbf0a497570d8bef3128ec5637f220eabfb75ce14e79deb2114", func := "loop.example/watershares/laws.FnExactSwapTurns", spec := "fnExactSwapTurns", apart := false, narrowed := true }
def FnExactSwapTurnsUptoSaid : Prop := fnExactSwapTurnsUptoRow.holds Try.pinned (OpenSpec.upto fnExactSwapTurnsSpec)

/-- 'laws.FnExactMergeTurns', WHERE WHAT IT READS IS OF BULK AT MOST 1048576: true; the input reads as it did. -/
def fnExactMergeTurnsUptoRow : OpenClaim := { program := "ytjnhdabgbpkbhaa", sum := "11bc78034e638bbf0a497570d8bef3128ec5637f220eabfb75ce14e79deb2114", func := "loop.example/watershares/laws.FnExactMergeTurns", spec := "fnExactMergeTurns", apart := false, narrowed := true }
def FnExactMergeTurnsUptoSaid : Prop := fnExactMergeTurnsUptoRow.holds Try.pinned (OpenSpec.upto fnExactMergeTurnsSpec)

end Rows
end Go.Proofs.Ytjnhdabgbpkbhaa
