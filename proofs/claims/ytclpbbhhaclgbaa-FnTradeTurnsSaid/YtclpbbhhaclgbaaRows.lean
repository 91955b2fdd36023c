/-
  No cell of these rows narrows 'for every input' (looked for: loops, veiled, ifaces, maps, wideKeys, modest, calm, conditions, laid).
  DERIVED. THE GIVEN ROWS OF THIS SEAT. 8 by the template 'for every input the law returns true; each argument reads behind the call as it read before'; 0 by the template 'total and deterministic' (their statements: YtclpbbhhaclgbaaTotals.lean).
  GIVEN WITH THE SEED: the statements are not yours to turn. If you find one false, say at which input.
  Laid BY PROGRAM, IN A SANDBOX (cutbox-rows.mjs): the forced cells as the released guide's own fill.sh prints them over the translation edb26001c9c895ae… (all of the seat's roots in one cut). By AI agents, Wed Nov 11 2026. No macro, syntax, notation, axiom, sorry.
-/
import Derived.Test.YtclpbbhhaclgbaaChecked
import GoSem.Claim
import GoSem.ClaimJoined
import GoSem.ClaimMapViews
import Derived.JoinedTies
import Derived.KernelRfl
namespace Go.Proofs.Ytclpbbhhaclgbaa
/- THE CELL 'sum', in the pinned program and in every row, IS THE sha256 OF THE DUMP (.gsa) THAT YtclpbbhhaclgbaaProg.lean LOADS. Nothing in Lean hashes anything: it is a label: what it is worth is what the hold of that sum in a sandbox is worth. -/
noncomputable def Try.pinned : Pinned := { name := "ytclpbbhhaclgbaa", sum := "edb26001c9c895ae43af670044bd44584f901bf02860390b3f838ce2bf31218e", checked := Try.checked }
namespace Rows
def none {H : Type} : Left H := { results := [], args := [] }

/-- 'laws.FnExactValidWishes': WHATEVER THE INPUT: true; the input reads as it did. -/
def fnExactValidWishesSpec : ChangeSpec := { name := "fnExactValidWishes", fn := fun _ => fun
  | [d] => { results := [.lit (.bool true)], args := [d] }
  | _ => none }
def fnExactValidWishesRow : OpenClaim := { program := "ytclpbbhhaclgbaa", sum := "edb26001c9c895ae43af670044bd44584f901bf02860390b3f838ce2bf31218e", func := "loop.example/watershares/laws.FnExactValidWishes", spec := "fnExactValidWishes", apart := false }
def FnExactValidWishesSaid : Prop := fnExactValidWishesRow.holds Try.pinned (OpenSpec.ofChange fnExactValidWishesSpec)

/-- ITS FALSE NEIGHBOUR: 'it returns false'. Refute it at one input. -/
def fnExactValidWishesWrong : ChangeSpec := { name := "fnExactValidWishes", fn := fun _ => fun
  | [d] => { results := [.lit (.bool false)], args := [d] }
  | _ => none }
def FnExactValidWishesWrongFalsely : Prop := fnExactValidWishesRow.holds Try.pinned (OpenSpec.ofChange fnExactValidWishesWrong)

/-- 'laws.FnExactTradeTurns': WHATEVER THE INPUT: true; the input reads as it did. -/
def fnExactTradeTurnsSpec : ChangeSpec := { name := "fnExactTradeTurns", fn := fun _ => fun
  | [d] => { results := [.lit (.bool true)], args := [d] }
  | _ => none }
def fnExactTradeTurnsRow : OpenClaim := { program := "ytclpbbhhaclgbaa", sum := "edb26001c9c895ae43af670044bd44584f901bf02860390b3f838ce2bf31218e", func := "loop.example/watershares/laws.FnExactTradeTurns", spec := "fnExactTradeTurns", apart := false }
def FnExactTradeTurnsSaid : Prop := fnExactTradeTurnsRow.holds Try.pinned (OpenSpec.ofChange fnExactTradeTurnsSpec)

/-- ITS FALSE NEIGHBOUR: 'it returns false'. Refute it at one input. -/
def fnExactTradeTurnsWrong : ChangeSpec := { name := "fnExactTradeTurns", fn := fun _ => fun
  | [d] => { results := [.lit (.bool false)], args := [d] }
  | _ => none }
def FnExactTradeTurnsWrongFalsely : Prop := fnExactTradeTurnsRow.holds Try.pinned (OpenSpec.ofChange fnExactTradeTurnsWrong)

/-- 'laws.FnExactRankOf': WHATEVER THE INPUT: true; the input reads as it did. -/
def fnExactRankOfSpec : ChangeSpec := { name := "fnExactRankOf", fn := fun _ => fun
  | [d1, d2, d3] => { results := [.lit (.bool true)], args := [d1, d2, d3] }
  | _ => none }
def fnExactRankOfRow : OpenClaim := { program := "ytclpbbhhaclgbaa", sum := "edb26001c9c895ae43af670044bd44584f901bf02860390b3f838ce2bf31218e", func := "loop.example/watershares/laws.FnExactRankOf", spec := "fnExactRankOf", apart := false }
def FnExactRankOfSaid : Prop := fnExactRankOfRow.holds Try.pinned (OpenSpec.ofChange fnExactRankOfSpec)

/-- ITS FALSE NEIGHBOUR: 'it returns false'. Refute it at one input. -/
def fnExactRankOfWrong : ChangeSpec := { name := "fnExactRankOf", fn := fun _ => fun
  | [d1, d2, d3] => { results := [.lit (.bool false)], args := [d1, d2, d3] }
  | _ => none }
def FnExactRankOfWrongFalsely : Prop := fnExactRankOfRow.holds Try.pinned (OpenSpec.ofChange fnExactRankOfWrong)

/-- 'laws.FnTradeTurns': WHATEVER THE INPUT: true; the input reads as it did. -/
def fnTradeTurnsSpec : ChangeSpec := { name := "fnTradeTurns", fn := fun _ => fun
  | [d] => { results := [.lit (.bool true)], args := [d] }
  | _ => none }
def fnTradeTurnsRow : OpenClaim := { program := "ytclpbbhhaclgbaa", sum := "edb26001c9c895ae43af670044bd44584f901bf02860390b3f838ce2bf31218e", func := "loop.example/watershares/laws.FnTradeTurns", spec := "fnTradeTurns", apart := false }
def FnTradeTurnsSaid : Prop := fnTradeTurnsRow.holds Try.pinned (OpenSpec.ofChange fnTradeTurnsSpec)

/-- ITS FALSE NEIGHBOUR: 'it returns false'. Refute it at one input. -/
def fnTradeTurnsWrong : ChangeSpec := { name := "fnTradeTurns", fn := fun _ => fun
  | [d] => { results := [.lit (.bool false)], args := [d] }
  | _ => none }
def FnTradeTurnsWrongFalsely : Prop := fnTradeTurnsRow.holds Try.pinned (OpenSpec.ofChange fnTradeTurnsWrong)

/-- 'laws.FnTradeTurnsStable': WHATEVER THE INPUT: true; the input reads as it did. -/
def fnTradeTurnsStableSpec : ChangeSpec := { name := "fnTradeTurnsStable", fn := fun _ => fun
  | [d] => { results := [.lit (.bool true)], args := [d] }
  | _ => none }
def fnTradeTurnsStableRow : OpenClaim := { program := "ytclpbbhhaclgbaa", sum := "edb26001c9c895ae43af670044bd44584f901bf02860390b3f838ce2bf31218e", func := "loop.example/watershares/laws.FnTradeTurnsStable", spec := "fnTradeTurnsStable", apart := false }
def FnTradeTurnsStableSaid : Prop := fnTradeTurnsStableRow.holds Try.pinned (OpenSpec.ofChange fnTradeTurnsStableSpec)

/-- ITS FALSE NEIGHBOUR: 'it returns false'. Refute it at one input. -/
def fnTradeTurnsStableWrong : ChangeSpec := { name := "fnTradeTurnsStable", fn := fun _ => fun
  | [d] => { results := [.lit (.bool false)], args := [d] }
  | _ => none }
def FnTradeTurnsStableWrongFalsely : Prop := fnTradeTurnsStableRow.holds Try.pinned (OpenSpec.ofChange fnTradeTurnsStableWrong)

/-- 'laws.FnTradeTurnsTruth': WHATEVER THE INPUT: true; the input reads as it did. -/
def fnTradeTurnsTruthSpec : ChangeSpec := { name := "fnTradeTurnsTruth", fn := fun _ => fun
  | [d] => { results := [.lit (.bool true)], args := [d] }
  | _ => none }
def fnTradeTurnsTruthRow : OpenClaim := { program := "ytclpbbhhaclgbaa", sum := "edb26001c9c895ae43af670044bd44584f901bf02860390b3f838ce2bf31218e", func := "loop.example/watershares/laws.FnTradeTurnsTruth", spec := "fnTradeTurnsTruth", apart := false }
def FnTradeTurnsTruthSaid : Prop := fnTradeTurnsTruthRow.holds Try.pinned (OpenSpec.ofChange fnTradeTurnsTruthSpec)

/-- ITS FALSE NEIGHBOUR: 'it returns false'. Refute it at one input. -/
def fnTradeTurnsTruthWrong : ChangeSpec := { name := "fnTradeTurnsTruth", fn := fun _ => fun
  | [d] => { results := [.lit (.bool false)], args := [d] }
  | _ => none }
def FnTradeTurnsTruthWrongFalsely : Prop := fnTradeTurnsTruthRow.holds Try.pinned (OpenSpec.ofChange fnTradeTurnsTruthWrong)

/-- 'laws.FnRunDeedsText': WHATEVER THE INPUT: true; the input reads as it did. -/
def fnRunDeedsTextSpec : ChangeSpec := { name := "fnRunDeedsText", fn := fun _ => fun
  | [d] => { results := [.lit (.bool true)], args := [d] }
  | _ => none }
def fnRunDeedsTextRow : OpenClaim := { program := "ytclpbbhhaclgbaa", sum := "edb26001c9c895ae43af670044bd44584f901bf02860390b3f838ce2bf31218e", func := "loop.example/watershares/laws.FnRunDeedsText", spec := "fnRunDeedsText", apart := false }
def FnRunDeedsTextSaid : Prop := fnRunDeedsTextRow.holds Try.pinned (OpenSpec.ofChange fnRunDeedsTextSpec)

/-- ITS FALSE NEIGHBOUR: 'it returns false'. Refute it at one input. -/
def fnRunDeedsTextWrong : ChangeSpec := { name := "fnRunDeedsText", fn := fun _ => fun
  | [d] => { results := [.lit (.bool false)], args := [d] }
  | _ => none }
def FnRunDeedsTextWrongFalsely : Prop := fnRunDeedsTextRow.holds Try.pinned (OpenSpec.ofChange fnRunDeedsTextWrong)

/-- 'laws.FnTurnsFor': WHATEVER THE INPUT: true; the input reads as it did. -/
def fnTurnsForSpec : ChangeSpec := { name := "fnTurnsFor", fn := fun _ => fun
  | [d] => { results := [.lit (.bool true)], args := [d] }
  | _ => none }
def fnTurnsForRow : OpenClaim := { program := "ytclpbbhhaclgbaa", sum := "edb26001c9c895ae43af670044bd44584f901bf02860390b3f838ce2bf31218e", func := "loop.example/watershares/laws.FnTurnsFor", spec := "fnTurnsFor", apart := false }
def FnTurnsForSaid : Prop := fnTurnsForRow.holds Try.pinned (OpenSpec.ofChange fnTurnsForSpec)

/-- ITS FALSE NEIGHBOUR: 'it returns false'. Refute it at one input. -/
def fnTurnsForWrong : ChangeSpec := { name := "fnTurnsFor", fn := fun _ => fun
  | [d] => { results := [.lit (.bool false)], args := [d] }
  | _ => none }
def FnTurnsForWrongFalsely : Prop := fnTurnsForRow.holds Try.pinned (OpenSpec.ofChange fnTurnsForWrong)

/- THE SECOND FORM. 'bulk': how many values and letters a reading holds, each counted each time it is reached (what is shared counts as often as it is met; a slice's spare places count too). A statement '..UptoSaid' is the law's where the arguments, and the package variables that the reading takes, are together of bulk at most 1048576: NARROWER than '..Said'. Prove '..Said' where nothing that the law and all that it calls make is longer than what came in: it says more and counts as full. Else prove '..UptoSaid'. A law counts once. -/
mutual
def uptoBulk {H : Type} : DataW H → Nat
  | .lit (.string bytes) => bytes.length + 1
  | .lit _ => 1
  | .nil => 1
  | .ptr d => uptoBulk d + 1
  | .slice elems spare => uptoBulkAll elems + uptoBulkAll spare + 1
  | .agg parts => uptoBulkAll parts + 1
  | .iface _ d => uptoBulk d + 1
  | .map entries => uptoBulkEntries entries + 1
  | .held _ => 1
def uptoBulkAll {H : Type} : List (DataW H) → Nat
  | [] => 0
  | d :: r => uptoBulk d + uptoBulkAll r
def uptoBulkEntries {H : Type} : List (Lit × DataW H) → Nat
  | [] => 0
  | x :: r => uptoBulkEntry x + uptoBulkEntries r
def uptoBulkEntry {H : Type} : Lit × DataW H → Nat
  | (.string bytes, d) => bytes.length + uptoBulk d + 1
  | (_, d) => uptoBulk d + 1
 end
def uptoSmall : (H : Type) → List (DataW H) → Bool := fun _ ds => decide (uptoBulkAll ds ≤ 1048576)
def OpenSpec.upto (s : _root_.Go.ChangeSpec) : _root_.Go.OpenSpec := { _root_.Go.OpenSpec.ofChange s with cond := some uptoSmall }

/-- 'laws.FnExactValidWishes', WHERE WHAT IT READS IS OF BULK AT MOST 1048576: true; the input reads as it did. -/
def fnExactValidWishesUptoRow : OpenClaim := { program := "ytclpbbhhaclgbaa", sum := "edb26001c9c895ae43af670044bd44584f901bf02860390b3f838ce2bf31218e", func := "loop.example/watershares/laws.FnExactValidWishes", spec := "fnExactValidWishes", apart := false, narrowed := true }
def FnExactValidWishesUptoSaid : Prop := fnExactValidWishesUptoRow.holds Try.pinned (OpenSpec.upto fnExactValidWishesSpec)

/-- 'laws.FnExactTradeTurns', WHERE WHAT IT READS IS OF BULK AT MOST 1048576: true; the input reads as it did. -/
def fnExactTradeTurnsUptoRow : OpenClaim := { program := "ytclpbbhhaclgbaa", sum := "edb26001c9c895ae43af670044bd44584f901bf02860390b3f838ce2bf31218e", func := "loop.example/watershares/laws.FnExactTradeTurns", spec := "fnExactTradeTurns", apart := false, narrowed := true }
def FnExactTradeTurnsUptoSaid : Prop := fnExactTradeTurnsUptoRow.holds Try.pinned (OpenSpec.upto fnExactTradeTurnsSpec)

/-- 'laws.FnExactRankOf', WHERE WHAT IT READS IS OF BULK AT MOST 1048576: true; the input reads as it did. -/
def fnExactRankOfUptoRow : OpenClaim := { program := "ytclpbbhhaclgbaa", sum := "edb26001c9c895ae43af670044bd44584f901bf02860390b3f838ce2bf31218e", func := "loop.example/watershares/laws.FnExactRankOf", spec := "fnExactRankOf", apart := false, narrowed := true }
def FnExactRankOfUptoSaid : Prop := fnExactRankOfUptoRow.holds Try.pinned (OpenSpec.upto fnExactRankOfSpec)

/-- 'laws.FnTradeTurns', WHERE WHAT IT READS IS OF BULK AT MOST 1048576: true; the input reads as it did. -/
def fnTradeTurnsUptoRow : OpenClaim := { program := "ytclpbbhhaclgbaa", sum := "edb26001c9c895ae43af670044bd44584f901bf02860390b3f838ce2bf31218e", func := "loop.example/watershares/laws.FnTradeTurns", spec := "fnTradeTurns", apart := false, narrowed := true }
def FnTradeTurnsUptoSaid : Prop := fnTradeTurnsUptoRow.holds Try.pinned (OpenSpec.upto fnTradeTurnsSpec)

/-- 'laws.FnTradeTurnsStable', WHERE WHAT IT READS IS OF BULK AT MOST 1048576: true; the input reads as it did. -/
def fnTradeTurnsStableUptoRow : OpenClaim := { program := "ytclpbbhhaclgbaa", sum := "edb26001c9c895ae43af670044bd44584f901bf02860390b3f838ce2bf31218e", func := "loop.example/watershares/laws.FnTradeTurnsStable", spec := "fnTradeTurnsStable", apart := false, narrowed := true }
def FnTradeTurnsStableUptoSaid : Prop := fnTradeTurnsStableUptoRow.holds Try.pinned (OpenSpec.upto fnTradeTurnsStableSpec)

/-- 'laws.FnTradeTurnsTruth', WHERE WHAT IT READS IS OF BULK AT MOST 1048576: true; the input reads as it did. -/
def fnTradeTurnsTruthUptoRow : OpenClaim := { program := "ytclpbbhhaclgbaa", sum := "edb26001c9c895ae43af670044bd44584f901bf02860390b3f838ce2bf31218e", func := "loop.example/watershares/laws.FnTradeTurnsTruth", spec := "fnTradeTurnsTruth", apart := false, narrowed := true }
def FnTradeTurnsTruthUptoSaid : Prop := fnTradeTurnsTruthUptoRow.holds Try.pinned (OpenSpec.upto fnTradeTurnsTruthSpec)

/-- 'laws.FnRunDeedsText', WHERE WHAT IT READS IS OF BULK AT MOST 1048576: true; the input reads as it did. -/
def fnRunDeedsTextUptoRow : OpenClaim := { program := "ytclpbbhhaclgbaa", sum := "edb26001c9c895ae43af670044bd44584f901bf02860390b3f838ce2bf31218e", func := "loop.example/watershares/laws.FnRunDeedsText", spec := "fnRunDeedsText", apart := false, narrowed := true }
def FnRunDeedsTextUptoSaid : Prop := fnRunDeedsTextUptoRow.holds Try.pinned (OpenSpec.upto fnRunDeedsTextSpec)

/-- 'laws.FnTurnsFor', WHERE WHAT IT READS IS OF BULK AT MOST 1048576: true; the input reads as it did. -/
def fnTurnsForUptoRow : OpenClaim := { program := "ytclpbbhhaclgbaa", sum := "edb26001c9c895ae43af670044bd44584f901bf02860390b3f838ce2bf31218e", func := "loop.example/watershares/laws.FnTurnsFor", spec := "fnTurnsFor", apart := false, narrowed := true }
def FnTurnsForUptoSaid : Prop := fnTurnsForUptoRow.holds Try.pinned (OpenSpec.upto fnTurnsForSpec)

end Rows
end Go.Proofs.Ytclpbbhhaclgbaa
