/-
  No cell of these rows narrows 'for every input' (looked for: loops, veiled, ifaces, maps, wideKeys, modest, calm, conditions, laid).
  DERIVED. THE GIVEN ROWS OF THIS SEAT. 6 by the template 'for every input the law returns true; each argument reads behind the call as it read before'; 0 by the template 'total and deterministic' (their statements: YthagafkjlecagabTotals.lean).
  GIVEN WITH THE SEED: the statements are not yours to turn. If you find one false, say at which input.
  Laid BY PROGRAM, IN A SANDBOX (cutbox-rows.mjs): the forced cells as the released guide's own fill.sh prints them over the translation ade30e56ec9b7db0… (all of the seat's roots in one cut). By AI agents, Wed Nov 11 2026. No macro, syntax, notation, axiom, sorry.
-/
import Derived.Test.YthagafkjlecagabChecked
import GoSem.Claim
import GoSem.ClaimJoined
import GoSem.ClaimMapViews
import Derived.JoinedTies
import Derived.KernelRfl
namespace Go.Proofs.Ythagafkjlecagab
/- THE CELL 'sum', in the pinned program and in every row, IS THE sha256 OF THE DUMP (.gsa) THAT YthagafkjlecagabProg.lean LOADS. Nothing in Lean hashes anything: it is a label: what it is worth is what the hold of that sum in a sandbox is worth. -/
noncomputable def Try.pinned : Pinned := { name := "ythagafkjlecagab", sum := "ade30e56ec9b7db0ae0cb0a75882f9d3a038dd1e2e8ed83271b80d3d4179ed92", checked := Try.checked }
namespace Rows
def none {H : Type} : Left H := { results := [], args := [] }

/-- 'laws.FnExactUsersAt': WHATEVER THE INPUT: true; the input reads as it did. -/
def fnExactUsersAtSpec : ChangeSpec := { name := "fnExactUsersAt", fn := fun _ => fun
  | [d1, d2, d3] => { results := [.lit (.bool true)], args := [d1, d2, d3] }
  | _ => none }
def fnExactUsersAtRow : OpenClaim := { program := "ythagafkjlecagab", sum := "ade30e56ec9b7db0ae0cb0a75882f9d3a038dd1e2e8ed83271b80d3d4179ed92", func := "loop.example/watershares/laws.FnExactUsersAt", spec := "fnExactUsersAt", apart := false }
def FnExactUsersAtSaid : Prop := fnExactUsersAtRow.holds Try.pinned (OpenSpec.ofChange fnExactUsersAtSpec)

/-- ITS FALSE NEIGHBOUR: 'it returns false'. Refute it at one input. -/
def fnExactUsersAtWrong : ChangeSpec := { name := "fnExactUsersAt", fn := fun _ => fun
  | [d1, d2, d3] => { results := [.lit (.bool false)], args := [d1, d2, d3] }
  | _ => none }
def FnExactUsersAtWrongFalsely : Prop := fnExactUsersAtRow.holds Try.pinned (OpenSpec.ofChange fnExactUsersAtWrong)

/-- 'laws.FnValidLeases': WHATEVER THE INPUT: true; the input reads as it did. -/
def fnValidLeasesSpec : ChangeSpec := { name := "fnValidLeases", fn := fun _ => fun
  | [d] => { results := [.lit (.bool true)], args := [d] }
  | _ => none }
def fnValidLeasesRow : OpenClaim := { program := "ythagafkjlecagab", sum := "ade30e56ec9b7db0ae0cb0a75882f9d3a038dd1e2e8ed83271b80d3d4179ed92", func := "loop.example/watershares/laws.FnValidLeases", spec := "fnValidLeases", apart := false }
def FnValidLeasesSaid : Prop := fnValidLeasesRow.holds Try.pinned (OpenSpec.ofChange fnValidLeasesSpec)

/-- ITS FALSE NEIGHBOUR: 'it returns false'. Refute it at one input. -/
def fnValidLeasesWrong : ChangeSpec := { name := "fnValidLeases", fn := fun _ => fun
  | [d] => { results := [.lit (.bool false)], args := [d] }
  | _ => none }
def FnValidLeasesWrongFalsely : Prop := fnValidLeasesRow.holds Try.pinned (OpenSpec.ofChange fnValidLeasesWrong)

/-- 'laws.FnUsersAt': WHATEVER THE INPUT: true; the input reads as it did. -/
def fnUsersAtSpec : ChangeSpec := { name := "fnUsersAt", fn := fun _ => fun
  | [d] => { results := [.lit (.bool true)], args := [d] }
  | _ => none }
def fnUsersAtRow : OpenClaim := { program := "ythagafkjlecagab", sum := "ade30e56ec9b7db0ae0cb0a75882f9d3a038dd1e2e8ed83271b80d3d4179ed92", func := "loop.example/watershares/laws.FnUsersAt", spec := "fnUsersAt", apart := false }
def FnUsersAtSaid : Prop := fnUsersAtRow.holds Try.pinned (OpenSpec.ofChange fnUsersAtSpec)

/-- ITS FALSE NEIGHBOUR: 'it returns false'. Refute it at one input. -/
def fnUsersAtWrong : ChangeSpec := { name := "fnUsersAt", fn := fun _ => fun
  | [d] => { results := [.lit (.bool false)], args := [d] }
  | _ => none }
def FnUsersAtWrongFalsely : Prop := fnUsersAtRow.holds Try.pinned (OpenSpec.ofChange fnUsersAtWrong)

/-- 'laws.FnUsersAtSell': WHATEVER THE INPUT: true; the input reads as it did. -/
def fnUsersAtSellSpec : ChangeSpec := { name := "fnUsersAtSell", fn := fun _ => fun
  | [d] => { results := [.lit (.bool true)], args := [d] }
  | _ => none }
def fnUsersAtSellRow : OpenClaim := { program := "ythagafkjlecagab", sum := "ade30e56ec9b7db0ae0cb0a75882f9d3a038dd1e2e8ed83271b80d3d4179ed92", func := "loop.example/watershares/laws.FnUsersAtSell", spec := "fnUsersAtSell", apart := false }
def FnUsersAtSellSaid : Prop := fnUsersAtSellRow.holds Try.pinned (OpenSpec.ofChange fnUsersAtSellSpec)

/-- ITS FALSE NEIGHBOUR: 'it returns false'. Refute it at one input. -/
def fnUsersAtSellWrong : ChangeSpec := { name := "fnUsersAtSell", fn := fun _ => fun
  | [d] => { results := [.lit (.bool false)], args := [d] }
  | _ => none }
def FnUsersAtSellWrongFalsely : Prop := fnUsersAtSellRow.holds Try.pinned (OpenSpec.ofChange fnUsersAtSellWrong)

/-- 'laws.FnRunDeeds': WHATEVER THE INPUT: true; the input reads as it did. -/
def fnRunDeedsSpec : ChangeSpec := { name := "fnRunDeeds", fn := fun _ => fun
  | [d] => { results := [.lit (.bool true)], args := [d] }
  | _ => none }
def fnRunDeedsRow : OpenClaim := { program := "ythagafkjlecagab", sum := "ade30e56ec9b7db0ae0cb0a75882f9d3a038dd1e2e8ed83271b80d3d4179ed92", func := "loop.example/watershares/laws.FnRunDeeds", spec := "fnRunDeeds", apart := false }
def FnRunDeedsSaid : Prop := fnRunDeedsRow.holds Try.pinned (OpenSpec.ofChange fnRunDeedsSpec)

/-- ITS FALSE NEIGHBOUR: 'it returns false'. Refute it at one input. -/
def fnRunDeedsWrong : ChangeSpec := { name := "fnRunDeeds", fn := fun _ => fun
  | [d] => { results := [.lit (.bool false)], args := [d] }
  | _ => none }
def FnRunDeedsWrongFalsely : Prop := fnRunDeedsRow.holds Try.pinned (OpenSpec.ofChange fnRunDeedsWrong)

/-- 'laws.FnRunDeedsText': WHATEVER THE INPUT: true; the input reads as it did. -/
def fnRunDeedsTextSpec : ChangeSpec := { name := "fnRunDeedsText", fn := fun _ => fun
  | [d] => { results := [.lit (.bool true)], args := [d] }
  | _ => none }
def fnRunDeedsTextRow : OpenClaim := { program := "ythagafkjlecagab", sum := "ade30e56ec9b7db0ae0cb0a75882f9d3a038dd1e2e8ed83271b80d3d4179ed92", func := "loop.example/watershares/laws.FnRunDeedsText", spec := "fnRunDeedsText", apart := false }
def FnRunDeedsTextSaid : Prop := fnRunDeedsTextRow.holds Try.pinned (OpenSpec.ofChange fnRunDeedsTextSpec)

/-- ITS FALSE NEIGHBOUR: 'it returns false'. Refute it at one input. -/
def fnRunDeedsTextWrong : ChangeSpec := { name := "fnRunDeedsText", fn := fun _ => fun
  | [d] => { results := [.lit (.bool false)], args := [d] }
  | _ => none }
def FnRunDeedsTextWrongFalsely : Prop := fnRunDeedsTextRow.holds Try.pinned (OpenSpec.ofChange fnRunDeedsTextWrong)

/- THE SECOND FORM. 'bulk': how many values and letters a reading holds, each counted each time it is reached (what is shared counts as often as it is met; a slice's spare places count too). A statement '..UptoSaid' is the law's where the arguments, and the package variables that the reading takes, are together of bulk at most 1048576: NARROWER than '..Said'. Prove '..Said' where nothing that the law and all that it calls make is longer than what came in: it says more and counts as full. Else prove '..UptoSaid'. A law counts once. -/
mutual
def uptoBulk {H : Type} : DataW H → Nat
  | .lit (.string bytes) => bytes.length + 1
  | .lit _ => 1
  | .nil => 1
  | .ptr d => uptoBulk d + 1
  | .slice elems spare => uptoBulkAll elems + uptoBulkAll spare + 1
  | .agg parts => uptoBulkAll parts + 1
  | .iface _ d => uptoBulk d + 1
  | .map entries => uptoBulkEntries entries + 1
  | .held _ => 1
def uptoBulkAll {H : Type} : List (DataW H) → Nat
  | [] => 0
  | d :: r => uptoBulk d + uptoBulkAll r
def uptoBulkEntries {H : Type} : List (Lit × DataW H) → Nat
  | [] => 0
  | x :: r => uptoBulkEntry x + uptoBulkEntries r
def uptoBulkEntry {H : Type} : Lit × DataW H → Nat
  | (.string bytes, d) => bytes.length + uptoBulk d + 1
  | (_, d) => uptoBulk d + 1
 end
def uptoSmall : (H : Type) → List (DataW H) → Bool := fun _ ds => decide (uptoBulkAll ds ≤ 1048576)
def OpenSpec.upto (s : _root_.Go.ChangeSpec) : _root_.Go.OpenSpec := { _root_.Go.OpenSpec.ofChange s with cond := some uptoSmall }

/-- 'laws.FnExactUsersAt', WHERE WHAT IT READS IS OF BULK AT MOST 1048576: true; the input reads as it did. -/
def fnExactUsersAtUptoRow : OpenClaim := { program := "ythagafkjlecagab", sum := "ade30e56ec9b7db0ae0cb0a75882f9d3a038dd1e2e8ed83271b80d3d4179ed92", func := "loop.example/watershares/laws.FnExactUsersAt", spec := "fnExactUsersAt", apart := false, narrowed := true }
def FnExactUsersAtUptoSaid : Prop := fnExactUsersAtUptoRow.holds Try.pinned (OpenSpec.upto fnExactUsersAtSpec)

/-- 'laws.FnValidLeases', WHERE WHAT IT READS IS OF BULK AT MOST 1048576: true; the input reads as it did. -/
def fnValidLeasesUptoRow : OpenClaim := { program := "ythagafkjlecagab", sum := "ade30e56ec9b7db0ae0cb0a75882f9d3a038dd1e2e8ed83271b80d3d4179ed92", func := "loop.example/watershares/laws.FnValidLeases", spec := "fnValidLeases", apart := false, narrowed := true }
def FnValidLeasesUptoSaid : Prop := fnValidLeasesUptoRow.holds Try.pinned (OpenSpec.upto fnValidLeasesSpec)

/-- 'laws.FnUsersAt', WHERE WHAT IT READS IS OF BULK AT MOST 1048576: true; the input reads as it did. -/
def fnUsersAtUptoRow : OpenClaim := { program := "ythagafkjlecagab", sum := "ade30e56ec9b7db0ae0cb0a75882f9d3a038dd1e2e8ed83271b80d3d4179ed92", func := "loop.example/watershares/laws.FnUsersAt", spec := "fnUsersAt", apart := false, narrowed := true }
def FnUsersAtUptoSaid : Prop := fnUsersAtUptoRow.holds Try.pinned (OpenSpec.upto fnUsersAtSpec)

/-- 'laws.FnUsersAtSell', WHERE WHAT IT READS IS OF BULK AT MOST 1048576: true; the input reads as it did. -/
def fnUsersAtSellUptoRow : OpenClaim := { program := "ythagafkjlecagab", sum := "ade30e56ec9b7db0ae0cb0a75882f9d3a038dd1e2e8ed83271b80d3d4179ed92", func := "loop.example/watershares/laws.FnUsersAtSell", spec := "fnUsersAtSell", apart := false, narrowed := true }
def FnUsersAtSellUptoSaid : Prop := fnUsersAtSellUptoRow.holds Try.pinned (OpenSpec.upto fnUsersAtSellSpec)

/-- 'laws.FnRunDeeds', WHERE WHAT IT READS IS OF BULK AT MOST 1048576: true; the input reads as it did. -/
def fnRunDeedsUptoRow : OpenClaim := { program := "ythagafkjlecagab", sum := "ade30e56ec9b7db0ae0cb0a75882f9d3a038dd1e2e8ed83271b80d3d4179ed92", func := "loop.example/watershares/laws.FnRunDeeds", spec := "fnRunDeeds", apart := false, narrowed := true }
def FnRunDeedsUptoSaid : Prop := fnRunDeedsUptoRow.holds Try.pinned (OpenSpec.upto fnRunDeedsSpec)

/-- 'laws.FnRunDeedsText', WHERE WHAT IT READS IS OF BULK AT MOST 1048576: true; the input reads as it did. -/
def fnRunDeedsTextUptoRow : OpenClaim := { program := "ythagafkjlecagab", sum := "ade30e56ec9b7db0ae0cb0a75882f9d3a038dd1e2e8ed83271b80d3d4179ed92", func := "loop.example/watershares/laws.FnRunDeedsText", spec := "fnRunDeedsText", apart := false, narrowed := true }
def FnRunDeedsTextUptoSaid : Prop := fnRunDeedsTextUptoRow.holds Try.pinned (OpenSpec.upto fnRunDeedsTextSpec)

end Rows
end Go.Proofs.Ythagafkjlecagab
