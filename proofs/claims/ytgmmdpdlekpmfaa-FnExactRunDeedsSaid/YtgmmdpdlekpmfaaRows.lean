/-
  No cell of these rows narrows 'for every input' (looked for: loops, veiled, ifaces, maps, wideKeys, modest, calm, conditions, laid).
  DERIVED. THE GIVEN ROWS OF THIS SEAT. 8 by the template 'for every input the law returns true; each argument reads behind the call as it read before'; 0 by the template 'total and deterministic' (their statements: YtgmmdpdlekpmfaaTotals.lean).
  GIVEN WITH THE SEED: the statements are not yours to turn. If you find one false, say at which input.
  Laid BY PROGRAM, IN A SANDBOX (cutbox-rows.mjs): the forced cells as the released guide's own fill.sh prints them over the translation 82eb7da3b1357cf4… (all of the seat's roots in one cut). By AI agents, Wed Nov 11 2026. No macro, syntax, notation, axiom, sorry.
-/
import Derived.Test.YtgmmdpdlekpmfaaChecked
import GoSem.Claim
import GoSem.ClaimJoined
import GoSem.ClaimMapViews
import Derived.JoinedTies
import Derived.KernelRfl
namespace Go.Proofs.Ytgmmdpdlekpmfaa
/- THE CELL 'sum', in the pinned program and in every row, IS THE sha256 OF THE DUMP (.gsa) THAT YtgmmdpdlekpmfaaProg.lean LOADS. Nothing in Lean hashes anything: it is a label: what it is worth is what the hold of that sum in a sandbox is worth. -/
noncomputable def Try.pinned : Pinned := { name := "ytgmmdpdlekpmfaa", sum := "82eb7da3b1357cf4a38b8d3b13be03da8f3d53ac2dce19078f2cf888b57218df", checked := Try.checked }
namespace Rows
def none {H : Type} : Left H := { results := [], args := [] }

/-- 'laws.FnExactValidTown': WHATEVER THE INPUT: true; the input reads as it did. -/
def fnExactValidTownSpec : ChangeSpec := { name := "fnExactValidTown", fn := fun _ => fun
  | [d] => { results := [.lit (.bool true)], args := [d] }
  | _ => none }
def fnExactValidTownRow : OpenClaim := { program := "ytgmmdpdlekpmfaa", sum := "82eb7da3b1357cf4a38b8d3b13be03da8f3d53ac2dce19078f2cf888b57218df", func := "loop.example/watershares/laws.FnExactValidTown", spec := "fnExactValidTown", apart := false }
def FnExactValidTownSaid : Prop := fnExactValidTownRow.holds Try.pinned (OpenSpec.ofChange fnExactValidTownSpec)

/-- ITS FALSE NEIGHBOUR: 'it returns false'. Refute it at one input. -/
def fnExactValidTownWrong : ChangeSpec := { name := "fnExactValidTown", fn := fun _ => fun
  | [d] => { results := [.lit (.bool false)], args := [d] }
  | _ => none }
def FnExactValidTownWrongFalsely : Prop := fnExactValidTownRow.holds Try.pinned (OpenSpec.ofChange fnExactValidTownWrong)

/-- 'laws.FnValidTown': WHATEVER THE INPUT: true; the input reads as it did. -/
def fnValidTownSpec : ChangeSpec := { name := "fnValidTown", fn := fun _ => fun
  | [d] => { results := [.lit (.bool true)], args := [d] }
  | _ => none }
def fnValidTownRow : OpenClaim := { program := "ytgmmdpdlekpmfaa", sum := "82eb7da3b1357cf4a38b8d3b13be03da8f3d53ac2dce19078f2cf888b57218df", func := "loop.example/watershares/laws.FnValidTown", spec := "fnValidTown", apart := false }
def FnValidTownSaid : Prop := fnValidTownRow.holds Try.pinned (OpenSpec.ofChange fnValidTownSpec)

/-- ITS FALSE NEIGHBOUR: 'it returns false'. Refute it at one input. -/
def fnValidTownWrong : ChangeSpec := { name := "fnValidTown", fn := fun _ => fun
  | [d] => { results := [.lit (.bool false)], args := [d] }
  | _ => none }
def FnValidTownWrongFalsely : Prop := fnValidTownRow.holds Try.pinned (OpenSpec.ofChange fnValidTownWrong)

/-- 'laws.FnExactNewTown': WHATEVER THE INPUT: true; the input reads as it did. -/
def fnExactNewTownSpec : ChangeSpec := { name := "fnExactNewTown", fn := fun _ => fun
  | [d1, d2, d3] => { results := [.lit (.bool true)], args := [d1, d2, d3] }
  | _ => none }
def fnExactNewTownRow : OpenClaim := { program := "ytgmmdpdlekpmfaa", sum := "82eb7da3b1357cf4a38b8d3b13be03da8f3d53ac2dce19078f2cf888b57218df", func := "loop.example/watershares/laws.FnExactNewTown", spec := "fnExactNewTown", apart := false }
def FnExactNewTownSaid : Prop := fnExactNewTownRow.holds Try.pinned (OpenSpec.ofChange fnExactNewTownSpec)

/-- ITS FALSE NEIGHBOUR: 'it returns false'. Refute it at one input. -/
def fnExactNewTownWrong : ChangeSpec := { name := "fnExactNewTown", fn := fun _ => fun
  | [d1, d2, d3] => { results := [.lit (.bool false)], args := [d1, d2, d3] }
  | _ => none }
def FnExactNewTownWrongFalsely : Prop := fnExactNewTownRow.holds Try.pinned (OpenSpec.ofChange fnExactNewTownWrong)

/-- 'laws.FnNewTown': WHATEVER THE INPUT: true; the input reads as it did. -/
def fnNewTownSpec : ChangeSpec := { name := "fnNewTown", fn := fun _ => fun
  | [d] => { results := [.lit (.bool true)], args := [d] }
  | _ => none }
def fnNewTownRow : OpenClaim := { program := "ytgmmdpdlekpmfaa", sum := "82eb7da3b1357cf4a38b8d3b13be03da8f3d53ac2dce19078f2cf888b57218df", func := "loop.example/watershares/laws.FnNewTown", spec := "fnNewTown", apart := false }
def FnNewTownSaid : Prop := fnNewTownRow.holds Try.pinned (OpenSpec.ofChange fnNewTownSpec)

/-- ITS FALSE NEIGHBOUR: 'it returns false'. Refute it at one input. -/
def fnNewTownWrong : ChangeSpec := { name := "fnNewTown", fn := fun _ => fun
  | [d] => { results := [.lit (.bool false)], args := [d] }
  | _ => none }
def FnNewTownWrongFalsely : Prop := fnNewTownRow.holds Try.pinned (OpenSpec.ofChange fnNewTownWrong)

/-- 'laws.FnExactUnitsTo': WHATEVER THE INPUT: true; the input reads as it did. -/
def fnExactUnitsToSpec : ChangeSpec := { name := "fnExactUnitsTo", fn := fun _ => fun
  | [d1, d2] => { results := [.lit (.bool true)], args := [d1, d2] }
  | _ => none }
def fnExactUnitsToRow : OpenClaim := { program := "ytgmmdpdlekpmfaa", sum := "82eb7da3b1357cf4a38b8d3b13be03da8f3d53ac2dce19078f2cf888b57218df", func := "loop.example/watershares/laws.FnExactUnitsTo", spec := "fnExactUnitsTo", apart := false }
def FnExactUnitsToSaid : Prop := fnExactUnitsToRow.holds Try.pinned (OpenSpec.ofChange fnExactUnitsToSpec)

/-- ITS FALSE NEIGHBOUR: 'it returns false'. Refute it at one input. -/
def fnExactUnitsToWrong : ChangeSpec := { name := "fnExactUnitsTo", fn := fun _ => fun
  | [d1, d2] => { results := [.lit (.bool false)], args := [d1, d2] }
  | _ => none }
def FnExactUnitsToWrongFalsely : Prop := fnExactUnitsToRow.holds Try.pinned (OpenSpec.ofChange fnExactUnitsToWrong)

/-- 'laws.FnUnitsTo': WHATEVER THE INPUT: true; the input reads as it did. -/
def fnUnitsToSpec : ChangeSpec := { name := "fnUnitsTo", fn := fun _ => fun
  | [d] => { results := [.lit (.bool true)], args := [d] }
  | _ => none }
def fnUnitsToRow : OpenClaim := { program := "ytgmmdpdlekpmfaa", sum := "82eb7da3b1357cf4a38b8d3b13be03da8f3d53ac2dce19078f2cf888b57218df", func := "loop.example/watershares/laws.FnUnitsTo", spec := "fnUnitsTo", apart := false }
def FnUnitsToSaid : Prop := fnUnitsToRow.holds Try.pinned (OpenSpec.ofChange fnUnitsToSpec)

/-- ITS FALSE NEIGHBOUR: 'it returns false'. Refute it at one input. -/
def fnUnitsToWrong : ChangeSpec := { name := "fnUnitsTo", fn := fun _ => fun
  | [d] => { results := [.lit (.bool false)], args := [d] }
  | _ => none }
def FnUnitsToWrongFalsely : Prop := fnUnitsToRow.holds Try.pinned (OpenSpec.ofChange fnUnitsToWrong)

/-- 'laws.FnExactRunDeeds': WHATEVER THE INPUT: true; the input reads as it did. -/
def fnExactRunDeedsSpec : ChangeSpec := { name := "fnExactRunDeeds", fn := fun _ => fun
  | [d1, d2] => { results := [.lit (.bool true)], args := [d1, d2] }
  | _ => none }
def fnExactRunDeedsRow : OpenClaim := { program := "ytgmmdpdlekpmfaa", sum := "82eb7da3b1357cf4a38b8d3b13be03da8f3d53ac2dce19078f2cf888b57218df", func := "loop.example/watershares/laws.FnExactRunDeeds", spec := "fnExactRunDeeds", apart := false }
def FnExactRunDeedsSaid : Prop := fnExactRunDeedsRow.holds Try.pinned (OpenSpec.ofChange fnExactRunDeedsSpec)

/-- ITS FALSE NEIGHBOUR: 'it returns false'. Refute it at one input. -/
def fnExactRunDeedsWrong : ChangeSpec := { name := "fnExactRunDeeds", fn := fun _ => fun
  | [d1, d2] => { results := [.lit (.bool false)], args := [d1, d2] }
  | _ => none }
def FnExactRunDeedsWrongFalsely : Prop := fnExactRunDeedsRow.holds Try.pinned (OpenSpec.ofChange fnExactRunDeedsWrong)

/-- 'laws.FnRunDeeds': WHATEVER THE INPUT: true; the input reads as it did. -/
def fnRunDeedsSpec : ChangeSpec := { name := "fnRunDeeds", fn := fun _ => fun
  | [d] => { results := [.lit (.bool true)], args := [d] }
  | _ => none }
def fnRunDeedsRow : OpenClaim := { program := "ytgmmdpdlekpmfaa", sum := "82eb7da3b1357cf4a38b8d3b13be03da8f3d53ac2dce19078f2cf888b57218df", func := "loop.example/watershares/laws.FnRunDeeds", spec := "fnRunDeeds", apart := false }
def FnRunDeedsSaid : Prop := fnRunDeedsRow.holds Try.pinned (OpenSpec.ofChange fnRunDeedsSpec)

/-- ITS FALSE NEIGHBOUR: 'it returns false'. Refute it at one input. -/
def fnRunDeedsWrong : ChangeSpec := { name := "fnRunDeeds", fn := fun _ => fun
  | [d] => { results := [.lit (.bool false)], args := [d] }
  | _ => none }
def FnRunDeedsWrongFalsely : Prop := fnRunDeedsRow.holds Try.pinned (OpenSpec.ofChange fnRunDeedsWrong)

/- THE SECOND FORM. 'bulk': how many values and letters a reading holds, each counted each time it is reached (what is shared counts as often as it is met; a slice's spare places count too). A statement '..UptoSaid' is the law's where the arguments, and the package variables that the reading takes, are together of bulk at most 1048576: NARROWER than '..Said'. Prove '..Said' where nothing that the law and all that it calls make is longer than what came in: it says more and counts as full. Else prove '..UptoSaid'. A law counts once. -/
mutual
def uptoBulk {H : Type} : DataW H → Nat
  | .lit (.string bytes) => bytes.length + 1
  | .lit _ => 1
  | .nil => 1
  | .ptr d => uptoBulk d + 1
  | .slice elems spare => uptoBulkAll elems + uptoBulkAll spare + 1
  | .agg parts => uptoBulkAll parts + 1
  | .iface _ d => uptoBulk d + 1
  | .map entries => uptoBulkEntries entries + 1
  | .held _ => 1
def uptoBulkAll {H : Type} : List (DataW H) → Nat
  | [] => 0
  | d :: r => uptoBulk d + uptoBulkAll r
def uptoBulkEntries {H : Type} : List (Lit × DataW H) → Nat
  | [] => 0
  | x :: r => uptoBulkEntry x + uptoBulkEntries r
def uptoBulkEntry {H : Type} : Lit × DataW H → Nat
  | (.string bytes, d) => bytes.length + uptoBulk d + 1
  | (_, d) => uptoBulk d + 1
 end
def uptoSmall : (H : Type) → List (DataW H) → Bool := fun _ ds => decide (uptoBulkAll ds ≤ 1048576)
def OpenSpec.upto (s : _root_.Go.ChangeSpec) : _root_.Go.OpenSpec := { _root_.Go.OpenSpec.ofChange s with cond := some uptoSmall }

/-- 'laws.FnExactValidTown', WHERE WHAT IT READS IS OF BULK AT MOST 1048576: true; the input reads as it did. -/
def fnExactValidTownUptoRow : OpenClaim := { program := "ytgmmdpdlekpmfaa", sum := "82eb7da3b1357cf4a38b8d3b13be03da8f3d53ac2dce19078f2cf888b57218df", func := "loop.example/watershares/laws.FnExactValidTown", spec := "fnExactValidTown", apart := false, narrowed := true }
def FnExactValidTownUptoSaid : Prop := fnExactValidTownUptoRow.holds Try.pinned (OpenSpec.upto fnExactValidTownSpec)

/-- 'laws.FnValidTown', WHERE WHAT IT READS IS OF BULK AT MOST 1048576: true; the input reads as it did. -/
def fnValidTownUptoRow : OpenClaim := { program := "ytgmmdpdlekpmfaa", sum := "82eb7da3b1357cf4a38b8d3b13be03da8f3d53ac2dce19078f2cf888b57218df", func := "loop.example/watershares/laws.FnValidTown", spec := "fnValidTown", apart := false, narrowed := true }
def FnValidTownUptoSaid : Prop := fnValidTownUptoRow.holds Try.pinned (OpenSpec.upto fnValidTownSpec)

/-- 'laws.FnExactNewTown', WHERE WHAT IT READS IS OF BULK AT MOST 1048576: true; the input reads as it did. -/
def fnExactNewTownUptoRow : OpenClaim := { program := "ytgmmdpdlekpmfaa", sum := "82eb7da3b1357cf4a38b8d3b13be03da8f3d53ac2dce19078f2cf888b57218df", func := "loop.example/watershares/laws.FnExactNewTown", spec := "fnExactNewTown", apart := false, narrowed := true }
def FnExactNewTownUptoSaid : Prop := fnExactNewTownUptoRow.holds Try.pinned (OpenSpec.upto fnExactNewTownSpec)

/-- 'laws.FnNewTown', WHERE WHAT IT READS IS OF BULK AT MOST 1048576: true; the input reads as it did. -/
def fnNewTownUptoRow : OpenClaim := { program := "ytgmmdpdlekpmfaa", sum := "82eb7da3b1357cf4a38b8d3b13be03da8f3d53ac2dce19078f2cf888b57218df", func := "loop.example/watershares/laws.FnNewTown", spec := "fnNewTown", apart := false, narrowed := true }
def FnNewTownUptoSaid : Prop := fnNewTownUptoRow.holds Try.pinned (OpenSpec.upto fnNewTownSpec)

/-- 'laws.FnExactUnitsTo', WHERE WHAT IT READS IS OF BULK AT MOST 1048576: true; the input reads as it did. -/
def fnExactUnitsToUptoRow : OpenClaim := { program := "ytgmmdpdlekpmfaa", sum := "82eb7da3b1357cf4a38b8d3b13be03da8f3d53ac2dce19078f2cf888b57218df", func := "loop.example/watershares/laws.FnExactUnitsTo", spec := "fnExactUnitsTo", apart := false, narrowed := true }
def FnExactUnitsToUptoSaid : Prop := fnExactUnitsToUptoRow.holds Try.pinned (OpenSpec.upto fnExactUnitsToSpec)

/-- 'laws.FnUnitsTo', WHERE WHAT IT READS IS OF BULK AT MOST 1048576: true; the input reads as it did. -/
def fnUnitsToUptoRow : OpenClaim := { program := "ytgmmdpdlekpmfaa", sum := "82eb7da3b1357cf4a38b8d3b13be03da8f3d53ac2dce19078f2cf888b57218df", func := "loop.example/watershares/laws.FnUnitsTo", spec := "fnUnitsTo", apart := false, narrowed := true }
def FnUnitsToUptoSaid : Prop := fnUnitsToUptoRow.holds Try.pinned (OpenSpec.upto fnUnitsToSpec)

/-- 'laws.FnExactRunDeeds', WHERE WHAT IT READS IS OF BULK AT MOST 1048576: true; the input reads as it did. -/
def fnExactRunDeedsUptoRow : OpenClaim := { program := "ytgmmdpdlekpmfaa", sum := "82eb7da3b1357cf4a38b8d3b13be03da8f3d53ac2dce19078f2cf888b57218df", func := "loop.example/watershares/laws.FnExactRunDeeds", spec := "fnExactRunDeeds", apart := false, narrowed := true }
def FnExactRunDeedsUptoSaid : Prop := fnExactRunDeedsUptoRow.holds Try.pinned (OpenSpec.upto fnExactRunDeedsSpec)

/-- 'laws.FnRunDeeds', WHERE WHAT IT READS IS OF BULK AT MOST 1048576: true; the input reads as it did. -/
def fnRunDeedsUptoRow : OpenClaim := { program := "ytgmmdpdlekpmfaa", sum := "82eb7da3b1357cf4a38b8d3b13be03da8f3d53ac2dce19078f2cf888b57218df", func := "loop.example/watershares/laws.FnRunDeeds", spec := "fnRunDeeds", apart := false, narrowed := true }
def FnRunDeedsUptoSaid : Prop := fnRunDeedsUptoRow.holds Try.pinned (OpenSpec.upto fnRunDeedsSpec)

end Rows
end Go.Proofs.Ytgmmdpdlekpmfaa
