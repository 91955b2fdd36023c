/-
  No cell of these rows narrows 'for every input' (looked for: loops, veiled, ifaces, maps, wideKeys, modest, calm, conditions, laid).
  DERIVED. THE GIVEN ROWS OF THIS SEAT. 9 by the template 'for every input the law returns true; each argument reads behind the call as it read before'; 0 by the template 'total and deterministic' (their statements: YtigapnbpgbfbhacTotals.lean).
  GIVEN WITH THE SEED: the statements are not yours to turn. If you find one false, say at which input.
  Laid BY PROGRAM, IN A SANDBOX (cutbox-rows.mjs): the forced cells as the released guide's own fill.sh prints them over the translation 89ecdf9b09576f71… (all of the seat's roots in one cut). By AI agents, Wed Nov 11 2026. No macro, syntax, notation, axiom, sorry.
-/
import Derived.Test.YtigapnbpgbfbhacChecked
import GoSem.Claim
import GoSem.ClaimJoined
import GoSem.ClaimMapViews
import Derived.JoinedTies
import Derived.KernelRfl
namespace Go.Proofs.Ytigapnbpgbfbhac
/- THE CELL 'sum', in the pinned program and in every row, IS THE sha256 OF THE DUMP (.gsa) THAT YtigapnbpgbfbhacProg.lean LOADS. Nothing in Lean hashes anything: it is a label: what it is worth is what the hold of that sum in a sandbox is worth. -/
noncomputable def Try.pinned : Pinned := { name := "ytigapnbpgbfbhac", sum := "89ecdf9b09576f71cb98175603283277a8ece4867fa41e9b5b8f57e130546446", checked := Try.checked }
namespace Rows
def none {H : Type} : Left H := { results := [], args := [] }

/-- 'laws.FnExactValidPlots': WHATEVER THE INPUT: true; the input reads as it did. -/
def fnExactValidPlotsSpec : ChangeSpec := { name := "fnExactValidPlots", fn := fun _ => fun
  | [d] => { results := [.lit (.bool true)], args := [d] }
  | _ => none }
def fnExactValidPlotsRow : OpenClaim := { program := "ytigapnbpgbfbhac", sum := "89ecdf9b09576f71cb98175603283277a8ece4867fa41e9b5b8f57e130546446", func := "loop.example/watershares/laws.FnExactValidPlots", spec := "fnExactValidPlots", apart := false }
def FnExactValidPlotsSaid : Prop := fnExactValidPlotsRow.holds Try.pinned (OpenSpec.ofChange fnExactValidPlotsSpec)

/-- ITS FALSE NEIGHBOUR: 'it returns false'. Refute it at one input. -/
def fnExactValidPlotsWrong : ChangeSpec := { name := "fnExactValidPlots", fn := fun _ => fun
  | [d] => { results := [.lit (.bool false)], args := [d] }
  | _ => none }
def FnExactValidPlotsWrongFalsely : Prop := fnExactValidPlotsRow.holds Try.pinned (OpenSpec.ofChange fnExactValidPlotsWrong)

/-- 'laws.FnExactBestYield': WHATEVER THE INPUT: true; the input reads as it did. -/
def fnExactBestYieldSpec : ChangeSpec := { name := "fnExactBestYield", fn := fun _ => fun
  | [d1, d2] => { results := [.lit (.bool true)], args := [d1, d2] }
  | _ => none }
def fnExactBestYieldRow : OpenClaim := { program := "ytigapnbpgbfbhac", sum := "89ecdf9b09576f71cb98175603283277a8ece4867fa41e9b5b8f57e130546446", func := "loop.example/watershares/laws.FnExactBestYield", spec := "fnExactBestYield", apart := false }
def FnExactBestYieldSaid : Prop := fnExactBestYieldRow.holds Try.pinned (OpenSpec.ofChange fnExactBestYieldSpec)

/-- ITS FALSE NEIGHBOUR: 'it returns false'. Refute it at one input. -/
def fnExactBestYieldWrong : ChangeSpec := { name := "fnExactBestYield", fn := fun _ => fun
  | [d1, d2] => { results := [.lit (.bool false)], args := [d1, d2] }
  | _ => none }
def FnExactBestYieldWrongFalsely : Prop := fnExactBestYieldRow.holds Try.pinned (OpenSpec.ofChange fnExactBestYieldWrong)

/-- 'laws.FnExactBestPlots': WHATEVER THE INPUT: true; the input reads as it did. -/
def fnExactBestPlotsSpec : ChangeSpec := { name := "fnExactBestPlots", fn := fun _ => fun
  | [d1, d2] => { results := [.lit (.bool true)], args := [d1, d2] }
  | _ => none }
def fnExactBestPlotsRow : OpenClaim := { program := "ytigapnbpgbfbhac", sum := "89ecdf9b09576f71cb98175603283277a8ece4867fa41e9b5b8f57e130546446", func := "loop.example/watershares/laws.FnExactBestPlots", spec := "fnExactBestPlots", apart := false }
def FnExactBestPlotsSaid : Prop := fnExactBestPlotsRow.holds Try.pinned (OpenSpec.ofChange fnExactBestPlotsSpec)

/-- ITS FALSE NEIGHBOUR: 'it returns false'. Refute it at one input. -/
def fnExactBestPlotsWrong : ChangeSpec := { name := "fnExactBestPlots", fn := fun _ => fun
  | [d1, d2] => { results := [.lit (.bool false)], args := [d1, d2] }
  | _ => none }
def FnExactBestPlotsWrongFalsely : Prop := fnExactBestPlotsRow.holds Try.pinned (OpenSpec.ofChange fnExactBestPlotsWrong)

/-- 'laws.FnExactPlotsNeed': WHATEVER THE INPUT: true; the input reads as it did. -/
def fnExactPlotsNeedSpec : ChangeSpec := { name := "fnExactPlotsNeed", fn := fun _ => fun
  | [d1, d2] => { results := [.lit (.bool true)], args := [d1, d2] }
  | _ => none }
def fnExactPlotsNeedRow : OpenClaim := { program := "ytigapnbpgbfbhac", sum := "89ecdf9b09576f71cb98175603283277a8ece4867fa41e9b5b8f57e130546446", func := "loop.example/watershares/laws.FnExactPlotsNeed", spec := "fnExactPlotsNeed", apart := false }
def FnExactPlotsNeedSaid : Prop := fnExactPlotsNeedRow.holds Try.pinned (OpenSpec.ofChange fnExactPlotsNeedSpec)

/-- ITS FALSE NEIGHBOUR: 'it returns false'. Refute it at one input. -/
def fnExactPlotsNeedWrong : ChangeSpec := { name := "fnExactPlotsNeed", fn := fun _ => fun
  | [d1, d2] => { results := [.lit (.bool false)], args := [d1, d2] }
  | _ => none }
def FnExactPlotsNeedWrongFalsely : Prop := fnExactPlotsNeedRow.holds Try.pinned (OpenSpec.ofChange fnExactPlotsNeedWrong)

/-- 'laws.FnValidPlots': WHATEVER THE INPUT: true; the input reads as it did. -/
def fnValidPlotsSpec : ChangeSpec := { name := "fnValidPlots", fn := fun _ => fun
  | [d] => { results := [.lit (.bool true)], args := [d] }
  | _ => none }
def fnValidPlotsRow : OpenClaim := { program := "ytigapnbpgbfbhac", sum := "89ecdf9b09576f71cb98175603283277a8ece4867fa41e9b5b8f57e130546446", func := "loop.example/watershares/laws.FnValidPlots", spec := "fnValidPlots", apart := false }
def FnValidPlotsSaid : Prop := fnValidPlotsRow.holds Try.pinned (OpenSpec.ofChange fnValidPlotsSpec)

/-- ITS FALSE NEIGHBOUR: 'it returns false'. Refute it at one input. -/
def fnValidPlotsWrong : ChangeSpec := { name := "fnValidPlots", fn := fun _ => fun
  | [d] => { results := [.lit (.bool false)], args := [d] }
  | _ => none }
def FnValidPlotsWrongFalsely : Prop := fnValidPlotsRow.holds Try.pinned (OpenSpec.ofChange fnValidPlotsWrong)

/-- 'laws.FnBestYield': WHATEVER THE INPUT: true; the input reads as it did. -/
def fnBestYieldSpec : ChangeSpec := { name := "fnBestYield", fn := fun _ => fun
  | [d] => { results := [.lit (.bool true)], args := [d] }
  | _ => none }
def fnBestYieldRow : OpenClaim := { program := "ytigapnbpgbfbhac", sum := "89ecdf9b09576f71cb98175603283277a8ece4867fa41e9b5b8f57e130546446", func := "loop.example/watershares/laws.FnBestYield", spec := "fnBestYield", apart := false }
def FnBestYieldSaid : Prop := fnBestYieldRow.holds Try.pinned (OpenSpec.ofChange fnBestYieldSpec)

/-- ITS FALSE NEIGHBOUR: 'it returns false'. Refute it at one input. -/
def fnBestYieldWrong : ChangeSpec := { name := "fnBestYield", fn := fun _ => fun
  | [d] => { results := [.lit (.bool false)], args := [d] }
  | _ => none }
def FnBestYieldWrongFalsely : Prop := fnBestYieldRow.holds Try.pinned (OpenSpec.ofChange fnBestYieldWrong)

/-- 'laws.FnBestPlots': WHATEVER THE INPUT: true; the input reads as it did. -/
def fnBestPlotsSpec : ChangeSpec := { name := "fnBestPlots", fn := fun _ => fun
  | [d] => { results := [.lit (.bool true)], args := [d] }
  | _ => none }
def fnBestPlotsRow : OpenClaim := { program := "ytigapnbpgbfbhac", sum := "89ecdf9b09576f71cb98175603283277a8ece4867fa41e9b5b8f57e130546446", func := "loop.example/watershares/laws.FnBestPlots", spec := "fnBestPlots", apart := false }
def FnBestPlotsSaid : Prop := fnBestPlotsRow.holds Try.pinned (OpenSpec.ofChange fnBestPlotsSpec)

/-- ITS FALSE NEIGHBOUR: 'it returns false'. Refute it at one input. -/
def fnBestPlotsWrong : ChangeSpec := { name := "fnBestPlots", fn := fun _ => fun
  | [d] => { results := [.lit (.bool false)], args := [d] }
  | _ => none }
def FnBestPlotsWrongFalsely : Prop := fnBestPlotsRow.holds Try.pinned (OpenSpec.ofChange fnBestPlotsWrong)

/-- 'laws.FnPlotsNeed': WHATEVER THE INPUT: true; the input reads as it did. -/
def fnPlotsNeedSpec : ChangeSpec := { name := "fnPlotsNeed", fn := fun _ => fun
  | [d] => { results := [.lit (.bool true)], args := [d] }
  | _ => none }
def fnPlotsNeedRow : OpenClaim := { program := "ytigapnbpgbfbhac", sum := "89ecdf9b09576f71cb98175603283277a8ece4867fa41e9b5b8f57e130546446", func := "loop.example/watershares/laws.FnPlotsNeed", spec := "fnPlotsNeed", apart := false }
def FnPlotsNeedSaid : Prop := fnPlotsNeedRow.holds Try.pinned (OpenSpec.ofChange fnPlotsNeedSpec)

/-- ITS FALSE NEIGHBOUR: 'it returns false'. Refute it at one input. -/
def fnPlotsNeedWrong : ChangeSpec := { name := "fnPlotsNeed", fn := fun _ => fun
  | [d] => { results := [.lit (.bool false)], args := [d] }
  | _ => none }
def FnPlotsNeedWrongFalsely : Prop := fnPlotsNeedRow.holds Try.pinned (OpenSpec.ofChange fnPlotsNeedWrong)

/-- 'laws.FnSureFlowPlots': WHATEVER THE INPUT: true; the input reads as it did. -/
def fnSureFlowPlotsSpec : ChangeSpec := { name := "fnSureFlowPlots", fn := fun _ => fun
  | [d] => { results := [.lit (.bool true)], args := [d] }
  | _ => none }
def fnSureFlowPlotsRow : OpenClaim := { program := "ytigapnbpgbfbhac", sum := "89ecdf9b09576f71cb98175603283277a8ece4867fa41e9b5b8f57e130546446", func := "loop.example/watershares/laws.FnSureFlowPlots", spec := "fnSureFlowPlots", apart := false }
def FnSureFlowPlotsSaid : Prop := fnSureFlowPlotsRow.holds Try.pinned (OpenSpec.ofChange fnSureFlowPlotsSpec)

/-- ITS FALSE NEIGHBOUR: 'it returns false'. Refute it at one input. -/
def fnSureFlowPlotsWrong : ChangeSpec := { name := "fnSureFlowPlots", fn := fun _ => fun
  | [d] => { results := [.lit (.bool false)], args := [d] }
  | _ => none }
def FnSureFlowPlotsWrongFalsely : Prop := fnSureFlowPlotsRow.holds Try.pinned (OpenSpec.ofChange fnSureFlowPlotsWrong)

/- THE SECOND FORM. 'bulk': how many values and letters a reading holds, each counted each time it is reached (what is shared counts as often as it is met; a slice's spare places count too). A statement '..UptoSaid' is the law's where the arguments, and the package variables that the reading takes, are together of bulk at most 1048576: NARROWER than '..Said'. Prove '..Said' where nothing that the law and all that it calls make is longer than what came in: it says more and counts as full. Else prove '..UptoSaid'. A law counts once. -/
mutual
def uptoBulk {H : Type} : DataW H → Nat
  | .lit (.string bytes) => bytes.length + 1
  | .lit _ => 1
  | .nil => 1
  | .ptr d => uptoBulk d + 1
  | .slice elems spare => uptoBulkAll elems + uptoBulkAll spare + 1
  | .agg parts => uptoBulkAll parts + 1
  | .iface _ d => uptoBulk d + 1
  | .map entries => uptoBulkEntries entries + 1
  | .held _ => 1
def uptoBulkAll {H : Type} : List (DataW H) → Nat
  | [] => 0
  | d :: r => uptoBulk d + uptoBulkAll r
def uptoBulkEntries {H : Type} : List (Lit × DataW H) → Nat
  | [] => 0
  | x :: r => uptoBulkEntry x + uptoBulkEntries r
def uptoBulkEntry {H : Type} : Lit × DataW H → Nat
  | (.string bytes, d) => bytes.length + uptoBulk d + 1
  | (_, d) => uptoBulk d + 1
 end
def uptoSmall : (H : Type) → List (DataW H) → Bool := fun _ ds => decide (uptoBulkAll ds ≤ 1048576)
def OpenSpec.upto (s : _root_.Go.ChangeSpec) : _root_.Go.OpenSpec := { _root_.Go.OpenSpec.ofChange s with cond := some uptoSmall }

/-- 'laws.FnExactValidPlots', WHERE WHAT IT READS IS OF BULK AT MOST 1048576: true; the input reads as it did. -/
def fnExactValidPlotsUptoRow : OpenClaim := { program := "ytigapnbpgbfbhac", sum := "89ecdf9b09576f71cb98175603283277a8ece4867fa41e9b5b8f57e130546446", func := "loop.example/watershares/laws.FnExactValidPlots", spec := "fnExactValidPlots", apart := false, narrowed := true }
def FnExactValidPlotsUptoSaid : Prop := fnExactValidPlotsUptoRow.holds Try.pinned (OpenSpec.upto fnExactValidPlotsSpec)

/-- 'laws.FnExactBestYield', WHERE WHAT IT READS IS OF BULK AT MOST 1048576: true; the input reads as it did. -/
def fnExactBestYieldUptoRow : OpenClaim := { program := "ytigapnbpgbfbhac", sum := "89ecdf9b09576f71cb98175603283277a8ece4867fa41e9b5b8f57e130546446", func := "loop.example/watershares/laws.FnExactBestYield", spec := "fnExactBestYield", apart := false, narrowed := true }
def FnExactBestYieldUptoSaid : Prop := fnExactBestYieldUptoRow.holds Try.pinned (OpenSpec.upto fnExactBestYieldSpec)

/-- 'laws.FnExactBestPlots', WHERE WHAT IT READS IS OF BULK AT MOST 1048576: true; the input reads as it did. -/
def fnExactBestPlotsUptoRow : OpenClaim := { program := "ytigapnbpgbfbhac", sum := "89ecdf9b09576f71cb98175603283277a8ece4867fa41e9b5b8f57e130546446", func := "loop.example/watershares/laws.FnExactBestPlots", spec := "fnExactBestPlots", apart := false, narrowed := true }
def FnExactBestPlotsUptoSaid : Prop := fnExactBestPlotsUptoRow.holds Try.pinned (OpenSpec.upto fnExactBestPlotsSpec)

/-- 'laws.FnExactPlotsNeed', WHERE WHAT IT READS IS OF BULK AT MOST 1048576: true; the input reads as it did. -/
def fnExactPlotsNeedUptoRow : OpenClaim := { program := "ytigapnbpgbfbhac", sum := "89ecdf9b09576f71cb98175603283277a8ece4867fa41e9b5b8f57e130546446", func := "loop.example/watershares/laws.FnExactPlotsNeed", spec := "fnExactPlotsNeed", apart := false, narrowed := true }
def FnExactPlotsNeedUptoSaid : Prop := fnExactPlotsNeedUptoRow.holds Try.pinned (OpenSpec.upto fnExactPlotsNeedSpec)

/-- 'laws.FnValidPlots', WHERE WHAT IT READS IS OF BULK AT MOST 1048576: true; the input reads as it did. -/
def fnValidPlotsUptoRow : OpenClaim := { program := "ytigapnbpgbfbhac", sum := "89ecdf9b09576f71cb98175603283277a8ece4867fa41e9b5b8f57e130546446", func := "loop.example/watershares/laws.FnValidPlots", spec := "fnValidPlots", apart := false, narrowed := true }
def FnValidPlotsUptoSaid : Prop := fnValidPlotsUptoRow.holds Try.pinned (OpenSpec.upto fnValidPlotsSpec)

/-- 'laws.FnBestYield', WHERE WHAT IT READS IS OF BULK AT MOST 1048576: true; the input reads as it did. -/
def fnBestYieldUptoRow : OpenClaim := { program := "ytigapnbpgbfbhac", sum := "89ecdf9b09576f71cb98175603283277a8ece4867fa41e9b5b8f57e130546446", func := "loop.example/watershares/laws.FnBestYield", spec := "fnBestYield", apart := false, narrowed := true }
def FnBestYieldUptoSaid : Prop := fnBestYieldUptoRow.holds Try.pinned (OpenSpec.upto fnBestYieldSpec)

/-- 'laws.FnBestPlots', WHERE WHAT IT READS IS OF BULK AT MOST 1048576: true; the input reads as it did. -/
def fnBestPlotsUptoRow : OpenClaim := { program := "ytigapnbpgbfbhac", sum := "89ecdf9b09576f71cb98175603283277a8ece4867fa41e9b5b8f57e130546446", func := "loop.example/watershares/laws.FnBestPlots", spec := "fnBestPlots", apart := false, narrowed := true }
def FnBestPlotsUptoSaid : Prop := fnBestPlotsUptoRow.holds Try.pinned (OpenSpec.upto fnBestPlotsSpec)

/-- 'laws.FnPlotsNeed', WHERE WHAT IT READS IS OF BULK AT MOST 1048576: true; the input reads as it did. -/
def fnPlotsNeedUptoRow : OpenClaim := { program := "ytigapnbpgbfbhac", sum := "89ecdf9b09576f71cb98175603283277a8ece4867fa41e9b5b8f57e130546446", func := "loop.example/watershares/laws.FnPlotsNeed", spec := "fnPlotsNeed", apart := false, narrowed := true }
def FnPlotsNeedUptoSaid : Prop := fnPlotsNeedUptoRow.holds Try.pinned (OpenSpec.upto fnPlotsNeedSpec)

/-- 'laws.FnSureFlowPlots', WHERE WHAT IT READS IS OF BULK AT MOST 1048576: true; the input reads as it did. -/
def fnSureFlowPlotsUptoRow : OpenClaim := { program := "ytigapnbpgbfbhac", sum := "89ecdf9b09576f71cb98175603283277a8ece4867fa41e9b5b8f57e130546446", func := "loop.example/watershares/laws.FnSureFlowPlots", spec := "fnSureFlowPlots", apart := false, narrowed := true }
def FnSureFlowPlotsUptoSaid : Prop := fnSureFlowPlotsUptoRow.holds Try.pinned (OpenSpec.upto fnSureFlowPlotsSpec)

end Rows
end Go.Proofs.Ytigapnbpgbfbhac
