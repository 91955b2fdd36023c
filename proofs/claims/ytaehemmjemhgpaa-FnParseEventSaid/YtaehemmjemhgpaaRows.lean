/-
  No cell of these rows narrows 'for every input' (looked for: loops, veiled, ifaces, maps, wideKeys, modest, calm, conditions, laid).
  DERIVED. THE GIVEN ROWS OF THIS SEAT. 9 by the template 'for every input the law returns true; each argument reads behind the call as it read before'; 0 by the template 'total and deterministic' (their statements: YtaehemmjemhgpaaTotals.lean).
  GIVEN WITH THE SEED: the statements are not yours to turn. If you find one false, say at which input.
  Laid BY PROGRAM, IN A SANDBOX (cutbox-rows.mjs): the forced cells as the released guide's own fill.sh prints them over the translation fb49650b90108593… (all of the seat's roots in one cut). By AI agents, Wed Nov 11 2026. No macro, syntax, notation, axiom, sorry.
-/
import Derived.Test.YtaehemmjemhgpaaChecked
import GoSem.Claim
import GoSem.ClaimJoined
import GoSem.ClaimMapViews
import Derived.JoinedTies
import Derived.KernelRfl
namespace Go.Proofs.Ytaehemmjemhgpaa
/- THE CELL 'sum', in the pinned program and in every row, IS THE sha256 OF THE DUMP (.gsa) THAT YtaehemmjemhgpaaProg.lean LOADS. Nothing in Lean hashes anything: it is a label: what it is worth is what the hold of that sum in a sandbox is worth. -/
noncomputable def Try.pinned : Pinned := { name := "ytaehemmjemhgpaa", sum := "fb49650b90108593c47882c5577a1f4ec3a6ff59389e1d243ec598a0d32d64aa", checked := Try.checked }
namespace Rows
def none {H : Type} : Left H := { results := [], args := [] }

/-- 'laws.FnRunDeeds': WHATEVER THE INPUT: true; the input reads as it did. -/
def fnRunDeedsSpec : ChangeSpec := { name := "fnRunDeeds", fn := fun _ => fun
  | [d] => { results := [.lit (.bool true)], args := [d] }
  | _ => none }
def fnRunDeedsRow : OpenClaim := { program := "ytaehemmjemhgpaa", sum := "fb49650b90108593c47882c5577a1f4ec3a6ff59389e1d243ec598a0d32d64aa", func := "loop.example/watershares/laws.FnRunDeeds", spec := "fnRunDeeds", apart := false }
def FnRunDeedsSaid : Prop := fnRunDeedsRow.holds Try.pinned (OpenSpec.ofChange fnRunDeedsSpec)

/-- ITS FALSE NEIGHBOUR: 'it returns false'. Refute it at one input. -/
def fnRunDeedsWrong : ChangeSpec := { name := "fnRunDeeds", fn := fun _ => fun
  | [d] => { results := [.lit (.bool false)], args := [d] }
  | _ => none }
def FnRunDeedsWrongFalsely : Prop := fnRunDeedsRow.holds Try.pinned (OpenSpec.ofChange fnRunDeedsWrong)

/-- 'laws.FnValidLeases': WHATEVER THE INPUT: true; the input reads as it did. -/
def fnValidLeasesSpec : ChangeSpec := { name := "fnValidLeases", fn := fun _ => fun
  | [d] => { results := [.lit (.bool true)], args := [d] }
  | _ => none }
def fnValidLeasesRow : OpenClaim := { program := "ytaehemmjemhgpaa", sum := "fb49650b90108593c47882c5577a1f4ec3a6ff59389e1d243ec598a0d32d64aa", func := "loop.example/watershares/laws.FnValidLeases", spec := "fnValidLeases", apart := false }
def FnValidLeasesSaid : Prop := fnValidLeasesRow.holds Try.pinned (OpenSpec.ofChange fnValidLeasesSpec)

/-- ITS FALSE NEIGHBOUR: 'it returns false'. Refute it at one input. -/
def fnValidLeasesWrong : ChangeSpec := { name := "fnValidLeases", fn := fun _ => fun
  | [d] => { results := [.lit (.bool false)], args := [d] }
  | _ => none }
def FnValidLeasesWrongFalsely : Prop := fnValidLeasesRow.holds Try.pinned (OpenSpec.ofChange fnValidLeasesWrong)

/-- 'laws.FnRunDeedsText': WHATEVER THE INPUT: true; the input reads as it did. -/
def fnRunDeedsTextSpec : ChangeSpec := { name := "fnRunDeedsText", fn := fun _ => fun
  | [d] => { results := [.lit (.bool true)], args := [d] }
  | _ => none }
def fnRunDeedsTextRow : OpenClaim := { program := "ytaehemmjemhgpaa", sum := "fb49650b90108593c47882c5577a1f4ec3a6ff59389e1d243ec598a0d32d64aa", func := "loop.example/watershares/laws.FnRunDeedsText", spec := "fnRunDeedsText", apart := false }
def FnRunDeedsTextSaid : Prop := fnRunDeedsTextRow.holds Try.pinned (OpenSpec.ofChange fnRunDeedsTextSpec)

/-- ITS FALSE NEIGHBOUR: 'it returns false'. Refute it at one input. -/
def fnRunDeedsTextWrong : ChangeSpec := { name := "fnRunDeedsText", fn := fun _ => fun
  | [d] => { results := [.lit (.bool false)], args := [d] }
  | _ => none }
def FnRunDeedsTextWrongFalsely : Prop := fnRunDeedsTextRow.holds Try.pinned (OpenSpec.ofChange fnRunDeedsTextWrong)

/-- 'laws.FnValidTown': WHATEVER THE INPUT: true; the input reads as it did. -/
def fnValidTownSpec : ChangeSpec := { name := "fnValidTown", fn := fun _ => fun
  | [d] => { results := [.lit (.bool true)], args := [d] }
  | _ => none }
def fnValidTownRow : OpenClaim := { program := "ytaehemmjemhgpaa", sum := "fb49650b90108593c47882c5577a1f4ec3a6ff59389e1d243ec598a0d32d64aa", func := "loop.example/watershares/laws.FnValidTown", spec := "fnValidTown", apart := false }
def FnValidTownSaid : Prop := fnValidTownRow.holds Try.pinned (OpenSpec.ofChange fnValidTownSpec)

/-- ITS FALSE NEIGHBOUR: 'it returns false'. Refute it at one input. -/
def fnValidTownWrong : ChangeSpec := { name := "fnValidTown", fn := fun _ => fun
  | [d] => { results := [.lit (.bool false)], args := [d] }
  | _ => none }
def FnValidTownWrongFalsely : Prop := fnValidTownRow.holds Try.pinned (OpenSpec.ofChange fnValidTownWrong)

/-- 'laws.FnUnitsTo': WHATEVER THE INPUT: true; the input reads as it did. -/
def fnUnitsToSpec : ChangeSpec := { name := "fnUnitsTo", fn := fun _ => fun
  | [d] => { results := [.lit (.bool true)], args := [d] }
  | _ => none }
def fnUnitsToRow : OpenClaim := { program := "ytaehemmjemhgpaa", sum := "fb49650b90108593c47882c5577a1f4ec3a6ff59389e1d243ec598a0d32d64aa", func := "loop.example/watershares/laws.FnUnitsTo", spec := "fnUnitsTo", apart := false }
def FnUnitsToSaid : Prop := fnUnitsToRow.holds Try.pinned (OpenSpec.ofChange fnUnitsToSpec)

/-- ITS FALSE NEIGHBOUR: 'it returns false'. Refute it at one input. -/
def fnUnitsToWrong : ChangeSpec := { name := "fnUnitsTo", fn := fun _ => fun
  | [d] => { results := [.lit (.bool false)], args := [d] }
  | _ => none }
def FnUnitsToWrongFalsely : Prop := fnUnitsToRow.holds Try.pinned (OpenSpec.ofChange fnUnitsToWrong)

/-- 'laws.FnFormatEvent': WHATEVER THE INPUT: true; the input reads as it did. -/
def fnFormatEventSpec : ChangeSpec := { name := "fnFormatEvent", fn := fun _ => fun
  | [d] => { results := [.lit (.bool true)], args := [d] }
  | _ => none }
def fnFormatEventRow : OpenClaim := { program := "ytaehemmjemhgpaa", sum := "fb49650b90108593c47882c5577a1f4ec3a6ff59389e1d243ec598a0d32d64aa", func := "loop.example/watershares/laws.FnFormatEvent", spec := "fnFormatEvent", recurses := true, apart := false }
def FnFormatEventSaid : Prop := fnFormatEventRow.holds Try.pinned (OpenSpec.ofChange fnFormatEventSpec)

/-- ITS FALSE NEIGHBOUR: 'it returns false'. Refute it at one input. -/
def fnFormatEventWrong : ChangeSpec := { name := "fnFormatEvent", fn := fun _ => fun
  | [d] => { results := [.lit (.bool false)], args := [d] }
  | _ => none }
def FnFormatEventWrongFalsely : Prop := fnFormatEventRow.holds Try.pinned (OpenSpec.ofChange fnFormatEventWrong)

/-- 'laws.FnParseEvent': WHATEVER THE INPUT: true; the input reads as it did. -/
def fnParseEventSpec : ChangeSpec := { name := "fnParseEvent", fn := fun _ => fun
  | [d] => { results := [.lit (.bool true)], args := [d] }
  | _ => none }
def fnParseEventRow : OpenClaim := { program := "ytaehemmjemhgpaa", sum := "fb49650b90108593c47882c5577a1f4ec3a6ff59389e1d243ec598a0d32d64aa", func := "loop.example/watershares/laws.FnParseEvent", spec := "fnParseEvent", recurses := true, apart := false }
def FnParseEventSaid : Prop := fnParseEventRow.holds Try.pinned (OpenSpec.ofChange fnParseEventSpec)

/-- ITS FALSE NEIGHBOUR: 'it returns false'. Refute it at one input. -/
def fnParseEventWrong : ChangeSpec := { name := "fnParseEvent", fn := fun _ => fun
  | [d] => { results := [.lit (.bool false)], args := [d] }
  | _ => none }
def FnParseEventWrongFalsely : Prop := fnParseEventRow.holds Try.pinned (OpenSpec.ofChange fnParseEventWrong)

/-- 'laws.FnRecoverBook': WHATEVER THE INPUT: true; the input reads as it did. -/
def fnRecoverBookSpec : ChangeSpec := { name := "fnRecoverBook", fn := fun _ => fun
  | [d] => { results := [.lit (.bool true)], args := [d] }
  | _ => none }
def fnRecoverBookRow : OpenClaim := { program := "ytaehemmjemhgpaa", sum := "fb49650b90108593c47882c5577a1f4ec3a6ff59389e1d243ec598a0d32d64aa", func := "loop.example/watershares/laws.FnRecoverBook", spec := "fnRecoverBook", recurses := true, apart := false }
def FnRecoverBookSaid : Prop := fnRecoverBookRow.holds Try.pinned (OpenSpec.ofChange fnRecoverBookSpec)

/-- ITS FALSE NEIGHBOUR: 'it returns false'. Refute it at one input. -/
def fnRecoverBookWrong : ChangeSpec := { name := "fnRecoverBook", fn := fun _ => fun
  | [d] => { results := [.lit (.bool false)], args := [d] }
  | _ => none }
def FnRecoverBookWrongFalsely : Prop := fnRecoverBookRow.holds Try.pinned (OpenSpec.ofChange fnRecoverBookWrong)

/-- 'laws.FnTradeTurnsTruth': WHATEVER THE INPUT: true; the input reads as it did. -/
def fnTradeTurnsTruthSpec : ChangeSpec := { name := "fnTradeTurnsTruth", fn := fun _ => fun
  | [d] => { results := [.lit (.bool true)], args := [d] }
  | _ => none }
def fnTradeTurnsTruthRow : OpenClaim := { program := "ytaehemmjemhgpaa", sum := "fb49650b90108593c47882c5577a1f4ec3a6ff59389e1d243ec598a0d32d64aa", func := "loop.example/watershares/laws.FnTradeTurnsTruth", spec := "fnTradeTurnsTruth", apart := false }
def FnTradeTurnsTruthSaid : Prop := fnTradeTurnsTruthRow.holds Try.pinned (OpenSpec.ofChange fnTradeTurnsTruthSpec)

/-- ITS FALSE NEIGHBOUR: 'it returns false'. Refute it at one input. -/
def fnTradeTurnsTruthWrong : ChangeSpec := { name := "fnTradeTurnsTruth", fn := fun _ => fun
  | [d] => { results := [.lit (.bool false)], args := [d] }
  | _ => none }
def FnTradeTurnsTruthWrongFalsely : Prop := fnTradeTurnsTruthRow.holds Try.pinned (OpenSpec.ofChange fnTradeTurnsTruthWrong)

/- THE SECOND FORM. 'bulk': how many values and letters a reading holds, each counted each time it is reached (what is shared counts as often as it is met; a slice's spare places count too). A statement '..UptoSaid' is the law's where the arguments, and the package variables that the reading takes, are together of bulk at most 1048576: NARROWER than '..Said'. Prove '..Said' where nothing that the law and all that it calls make is longer than what came in: it says more and counts as full. Else prove '..UptoSaid'. A law counts once. -/
mutual
def uptoBulk {H : Type} : DataW H → Nat
  | .lit (.string bytes) => bytes.length + 1
  | .lit _ => 1
  | .nil => 1
  | .ptr d => uptoBulk d + 1
  | .slice elems spare => uptoBulkAll elems + uptoBulkAll spare + 1
  | .agg parts => uptoBulkAll parts + 1
  | .iface _ d => uptoBulk d + 1
  | .map entries => uptoBulkEntries entries + 1
  | .held _ => 1
def uptoBulkAll {H : Type} : List (DataW H) → Nat
  | [] => 0
  | d :: r => uptoBulk d + uptoBulkAll r
def uptoBulkEntries {H : Type} : List (Lit × DataW H) → Nat
  | [] => 0
  | x :: r => uptoBulkEntry x + uptoBulkEntries r
def uptoBulkEntry {H : Type} : Lit × DataW H → Nat
  | (.string bytes, d) => bytes.length + uptoBulk d + 1
  | (_, d) => uptoBulk d + 1
 end
def uptoSmall : (H : Type) → List (DataW H) → Bool := fun _ ds => decide (uptoBulkAll ds ≤ 1048576)
def OpenSpec.upto (s : _root_.Go.ChangeSpec) : _root_.Go.OpenSpec := { _root_.Go.OpenSpec.ofChange s with cond := some uptoSmall }

/-- 'laws.FnRunDeeds', WHERE WHAT IT READS IS OF BULK AT MOST 1048576: true; the input reads as it did. -/
def fnRunDeedsUptoRow : OpenClaim := { program := "ytaehemmjemhgpaa", sum := "fb49650b90108593c47882c5577a1f4ec3a6ff59389e1d243ec598a0d32d64aa", func := "loop.example/watershares/laws.FnRunDeeds", spec := "fnRunDeeds", apart := false, narrowed := true }
def FnRunDeedsUptoSaid : Prop := fnRunDeedsUptoRow.holds Try.pinned (OpenSpec.upto fnRunDeedsSpec)

/-- 'laws.FnValidLeases', WHERE WHAT IT READS IS OF BULK AT MOST 1048576: true; the input reads as it did. -/
def fnValidLeasesUptoRow : OpenClaim := { program := "ytaehemmjemhgpaa", sum := "fb49650b90108593c47882c5577a1f4ec3a6ff59389e1d243ec598a0d32d64aa", func := "loop.example/watershares/laws.FnValidLeases", spec := "fnValidLeases", apart := false, narrowed := true }
def FnValidLeasesUptoSaid : Prop := fnValidLeasesUptoRow.holds Try.pinned (OpenSpec.upto fnValidLeasesSpec)

/-- 'laws.FnRunDeedsText', WHERE WHAT IT READS IS OF BULK AT MOST 1048576: true; the input reads as it did. -/
def fnRunDeedsTextUptoRow : OpenClaim := { program := "ytaehemmjemhgpaa", sum := "fb49650b90108593c47882c5577a1f4ec3a6ff59389e1d243ec598a0d32d64aa", func := "loop.example/watershares/laws.FnRunDeedsText", spec := "fnRunDeedsText", apart := false, narrowed := true }
def FnRunDeedsTextUptoSaid : Prop := fnRunDeedsTextUptoRow.holds Try.pinned (OpenSpec.upto fnRunDeedsTextSpec)

/-- 'laws.FnValidTown', WHERE WHAT IT READS IS OF BULK AT MOST 1048576: true; the input reads as it did. -/
def fnValidTownUptoRow : OpenClaim := { program := "ytaehemmjemhgpaa", sum := "fb49650b90108593c47882c5577a1f4ec3a6ff59389e1d243ec598a0d32d64aa", func := "loop.example/watershares/laws.FnValidTown", spec := "fnValidTown", apart := false, narrowed := true }
def FnValidTownUptoSaid : Prop := fnValidTownUptoRow.holds Try.pinned (OpenSpec.upto fnValidTownSpec)

/-- 'laws.FnUnitsTo', WHERE WHAT IT READS IS OF BULK AT MOST 1048576: true; the input reads as it did. -/
def fnUnitsToUptoRow : OpenClaim := { program := "ytaehemmjemhgpaa", sum := "fb49650b90108593c47882c5577a1f4ec3a6ff59389e1d243ec598a0d32d64aa", func := "loop.example/watershares/laws.FnUnitsTo", spec := "fnUnitsTo", apart := false, narrowed := true }
def FnUnitsToUptoSaid : Prop := fnUnitsToUptoRow.holds Try.pinned (OpenSpec.upto fnUnitsToSpec)

/-- 'laws.FnFormatEvent', WHERE WHAT IT READS IS OF BULK AT MOST 1048576: true; the input reads as it did. -/
def fnFormatEventUptoRow : OpenClaim := { program := "ytaehemmjemhgpaa", sum := "fb49650b90108593c47882c5577a1f4ec3a6ff59389e1d243ec598a0d32d64aa", func := "loop.example/watershares/laws.FnFormatEvent", spec := "fnFormatEvent", recurses := true, apart := false, narrowed := true }
def FnFormatEventUptoSaid : Prop := fnFormatEventUptoRow.holds Try.pinned (OpenSpec.upto fnFormatEventSpec)

/-- 'laws.FnParseEvent', WHERE WHAT IT READS IS OF BULK AT MOST 1048576: true; the input reads as it did. -/
def fnParseEventUptoRow : OpenClaim := { program := "ytaehemmjemhgpaa", sum := "fb49650b90108593c47882c5577a1f4ec3a6ff59389e1d243ec598a0d32d64aa", func := "loop.example/watershares/laws.FnParseEvent", spec := "fnParseEvent", recurses := true, apart := false, narrowed := true }
def FnParseEventUptoSaid : Prop := fnParseEventUptoRow.holds Try.pinned (OpenSpec.upto fnParseEventSpec)

/-- 'laws.FnRecoverBook', WHERE WHAT IT READS IS OF BULK AT MOST 1048576: true; the input reads as it did. -/
def fnRecoverBookUptoRow : OpenClaim := { program := "ytaehemmjemhgpaa", sum := "fb49650b90108593c47882c5577a1f4ec3a6ff59389e1d243ec598a0d32d64aa", func := "loop.example/watershares/laws.FnRecoverBook", spec := "fnRecoverBook", recurses := true, apart := false, narrowed := true }
def FnRecoverBookUptoSaid : Prop := fnRecoverBookUptoRow.holds Try.pinned (OpenSpec.upto fnRecoverBookSpec)

/-- 'laws.FnTradeTurnsTruth', WHERE WHAT IT READS IS OF BULK AT MOST 1048576: true; the input reads as it did. -/
def fnTradeTurnsTruthUptoRow : OpenClaim := { program := "ytaehemmjemhgpaa", sum := "fb49650b90108593c47882c5577a1f4ec3a6ff59389e1d243ec598a0d32d64aa", func := "loop.example/watershares/laws.FnTradeTurnsTruth", spec := "fnTradeTurnsTruth", apart := false, narrowed := true }
def FnTradeTurnsTruthUptoSaid : Prop := fnTradeTurnsTruthUptoRow.holds Try.pinned (OpenSpec.upto fnTradeTurnsTruthSpec)

end Rows
end Go.Proofs.Ytaehemmjemhgpaa
