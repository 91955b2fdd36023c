/-
  No cell of these rows narrows 'for every input' (looked for: loops, veiled, ifaces, maps, wideKeys, modest, calm, conditions, laid).
  DERIVED. THE GIVEN ROWS OF THIS SEAT. 7 by the template 'for every input the law returns true; each argument reads behind the call as it read before'; 0 by the template 'total and deterministic' (their statements: YthagafkjlecagaaTotals.lean).
  GIVEN WITH THE SEED: the statements are not yours to turn. If you find one false, say at which input.
  Laid BY PROGRAM, IN A SANDBOX (cutbox-rows.mjs): the forced cells as the released guide's own fill.sh prints them over the translation 1d53e8c9f904601d… (all of the seat's roots in one cut). By AI agents, Wed Nov 11 2026. No macro, syntax, notation, axiom, sorry.
-/
import Derived.Test.YthagafkjlecagaaChecked
import GoSem.Claim
import GoSem.ClaimJoined
import GoSem.ClaimMapViews
import Derived.JoinedTies
import Derived.KernelRfl
namespace Go.Proofs.Ythagafkjlecagaa
/- THE CELL 'sum', in the pinned program and in every row, IS THE sha256 OF THE DUMP (.gsa) THAT YthagafkjlecagaaProg.lean LOADS. Nothing in Lean hashes anything: it is a label: what it is worth is what the hold of that sum in a sandbox is worth. -/
noncomputable def Try.pinned : Pinned := { name := "ythagafkjlecagaa", sum := "1d53e8c9f904601dd7f4381beb82a486566f38615014a1430ad0b93f15332b8d", checked := Try.checked }
namespace Rows
def none {H : Type} : Left H := { results := [], args := [] }

/-- 'laws.FnExactFormatEvent': WHATEVER THE INPUT: true; the input reads as it did. -/
def fnExactFormatEventSpec : ChangeSpec := { name := "fnExactFormatEvent", fn := fun _ => fun
  | [d] => { results := [.lit (.bool true)], args := [d] }
  | _ => none }
def fnExactFormatEventRow : OpenClaim := { program := "ythagafkjlecagaa", sum := "1d53e8c9f904601dd7f4381beb82a486566f38615014a1430ad0b93f15332b8d", func := "loop.example/watershares/laws.FnExactFormatEvent", spec := "fnExactFormatEvent", recurses := true, apart := false }
def FnExactFormatEventSaid : Prop := fnExactFormatEventRow.holds Try.pinned (OpenSpec.ofChange fnExactFormatEventSpec)

/-- ITS FALSE NEIGHBOUR: 'it returns false'. Refute it at one input. -/
def fnExactFormatEventWrong : ChangeSpec := { name := "fnExactFormatEvent", fn := fun _ => fun
  | [d] => { results := [.lit (.bool false)], args := [d] }
  | _ => none }
def FnExactFormatEventWrongFalsely : Prop := fnExactFormatEventRow.holds Try.pinned (OpenSpec.ofChange fnExactFormatEventWrong)

/-- 'laws.FnFormatEvent': WHATEVER THE INPUT: true; the input reads as it did. -/
def fnFormatEventSpec : ChangeSpec := { name := "fnFormatEvent", fn := fun _ => fun
  | [d] => { results := [.lit (.bool true)], args := [d] }
  | _ => none }
def fnFormatEventRow : OpenClaim := { program := "ythagafkjlecagaa", sum := "1d53e8c9f904601dd7f4381beb82a486566f38615014a1430ad0b93f15332b8d", func := "loop.example/watershares/laws.FnFormatEvent", spec := "fnFormatEvent", recurses := true, apart := false }
def FnFormatEventSaid : Prop := fnFormatEventRow.holds Try.pinned (OpenSpec.ofChange fnFormatEventSpec)

/-- ITS FALSE NEIGHBOUR: 'it returns false'. Refute it at one input. -/
def fnFormatEventWrong : ChangeSpec := { name := "fnFormatEvent", fn := fun _ => fun
  | [d] => { results := [.lit (.bool false)], args := [d] }
  | _ => none }
def FnFormatEventWrongFalsely : Prop := fnFormatEventRow.holds Try.pinned (OpenSpec.ofChange fnFormatEventWrong)

/-- 'laws.FnExactParseEvent': WHATEVER THE INPUT: true; the input reads as it did. -/
def fnExactParseEventSpec : ChangeSpec := { name := "fnExactParseEvent", fn := fun _ => fun
  | [d] => { results := [.lit (.bool true)], args := [d] }
  | _ => none }
def fnExactParseEventRow : OpenClaim := { program := "ythagafkjlecagaa", sum := "1d53e8c9f904601dd7f4381beb82a486566f38615014a1430ad0b93f15332b8d", func := "loop.example/watershares/laws.FnExactParseEvent", spec := "fnExactParseEvent", recurses := true, apart := false }
def FnExactParseEventSaid : Prop := fnExactParseEventRow.holds Try.pinned (OpenSpec.ofChange fnExactParseEventSpec)

/-- ITS FALSE NEIGHBOUR: 'it returns false'. Refute it at one input. -/
def fnExactParseEventWrong : ChangeSpec := { name := "fnExactParseEvent", fn := fun _ => fun
  | [d] => { results := [.lit (.bool false)], args := [d] }
  | _ => none }
def FnExactParseEventWrongFalsely : Prop := fnExactParseEventRow.holds Try.pinned (OpenSpec.ofChange fnExactParseEventWrong)

/-- 'laws.FnParseEvent': WHATEVER THE INPUT: true; the input reads as it did. -/
def fnParseEventSpec : ChangeSpec := { name := "fnParseEvent", fn := fun _ => fun
  | [d] => { results := [.lit (.bool true)], args := [d] }
  | _ => none }
def fnParseEventRow : OpenClaim := { program := "ythagafkjlecagaa", sum := "1d53e8c9f904601dd7f4381beb82a486566f38615014a1430ad0b93f15332b8d", func := "loop.example/watershares/laws.FnParseEvent", spec := "fnParseEvent", recurses := true, apart := false }
def FnParseEventSaid : Prop := fnParseEventRow.holds Try.pinned (OpenSpec.ofChange fnParseEventSpec)

/-- ITS FALSE NEIGHBOUR: 'it returns false'. Refute it at one input. -/
def fnParseEventWrong : ChangeSpec := { name := "fnParseEvent", fn := fun _ => fun
  | [d] => { results := [.lit (.bool false)], args := [d] }
  | _ => none }
def FnParseEventWrongFalsely : Prop := fnParseEventRow.holds Try.pinned (OpenSpec.ofChange fnParseEventWrong)

/-- 'laws.FnExactFormatBook': WHATEVER THE INPUT: true; the input reads as it did. -/
def fnExactFormatBookSpec : ChangeSpec := { name := "fnExactFormatBook", fn := fun _ => fun
  | [d] => { results := [.lit (.bool true)], args := [d] }
  | _ => none }
def fnExactFormatBookRow : OpenClaim := { program := "ythagafkjlecagaa", sum := "1d53e8c9f904601dd7f4381beb82a486566f38615014a1430ad0b93f15332b8d", func := "loop.example/watershares/laws.FnExactFormatBook", spec := "fnExactFormatBook", recurses := true, apart := false }
def FnExactFormatBookSaid : Prop := fnExactFormatBookRow.holds Try.pinned (OpenSpec.ofChange fnExactFormatBookSpec)

/-- ITS FALSE NEIGHBOUR: 'it returns false'. Refute it at one input. -/
def fnExactFormatBookWrong : ChangeSpec := { name := "fnExactFormatBook", fn := fun _ => fun
  | [d] => { results := [.lit (.bool false)], args := [d] }
  | _ => none }
def FnExactFormatBookWrongFalsely : Prop := fnExactFormatBookRow.holds Try.pinned (OpenSpec.ofChange fnExactFormatBookWrong)

/-- 'laws.FnExactRecoverBook': WHATEVER THE INPUT: true; the input reads as it did. -/
def fnExactRecoverBookSpec : ChangeSpec := { name := "fnExactRecoverBook", fn := fun _ => fun
  | [d] => { results := [.lit (.bool true)], args := [d] }
  | _ => none }
def fnExactRecoverBookRow : OpenClaim := { program := "ythagafkjlecagaa", sum := "1d53e8c9f904601dd7f4381beb82a486566f38615014a1430ad0b93f15332b8d", func := "loop.example/watershares/laws.FnExactRecoverBook", spec := "fnExactRecoverBook", recurses := true, apart := false }
def FnExactRecoverBookSaid : Prop := fnExactRecoverBookRow.holds Try.pinned (OpenSpec.ofChange fnExactRecoverBookSpec)

/-- ITS FALSE NEIGHBOUR: 'it returns false'. Refute it at one input. -/
def fnExactRecoverBookWrong : ChangeSpec := { name := "fnExactRecoverBook", fn := fun _ => fun
  | [d] => { results := [.lit (.bool false)], args := [d] }
  | _ => none }
def FnExactRecoverBookWrongFalsely : Prop := fnExactRecoverBookRow.holds Try.pinned (OpenSpec.ofChange fnExactRecoverBookWrong)

/-- 'laws.FnRecoverBook': WHATEVER THE INPUT: true; the input reads as it did. -/
def fnRecoverBookSpec : ChangeSpec := { name := "fnRecoverBook", fn := fun _ => fun
  | [d] => { results := [.lit (.bool true)], args := [d] }
  | _ => none }
def fnRecoverBookRow : OpenClaim := { program := "ythagafkjlecagaa", sum := "1d53e8c9f904601dd7f4381beb82a486566f38615014a1430ad0b93f15332b8d", func := "loop.example/watershares/laws.FnRecoverBook", spec := "fnRecoverBook", recurses := true, apart := false }
def FnRecoverBookSaid : Prop := fnRecoverBookRow.holds Try.pinned (OpenSpec.ofChange fnRecoverBookSpec)

/-- ITS FALSE NEIGHBOUR: 'it returns false'. Refute it at one input. -/
def fnRecoverBookWrong : ChangeSpec := { name := "fnRecoverBook", fn := fun _ => fun
  | [d] => { results := [.lit (.bool false)], args := [d] }
  | _ => none }
def FnRecoverBookWrongFalsely : Prop := fnRecoverBookRow.holds Try.pinned (OpenSpec.ofChange fnRecoverBookWrong)

/- THE SECOND FORM. 'bulk': how many values and letters a reading holds, each counted each time it is reached (what is shared counts as often as it is met; a slice's spare places count too). A statement '..UptoSaid' is the law's where the arguments, and the package variables that the reading takes, are together of bulk at most 1048576: NARROWER than '..Said'. Prove '..Said' where nothing that the law and all that it calls make is longer than what came in: it says more and counts as full. Else prove '..UptoSaid'. A law counts once. -/
mutual
def uptoBulk {H : Type} : DataW H → Nat
  | .lit (.string bytes) => bytes.length + 1
  | .lit _ => 1
  | .nil => 1
  | .ptr d => uptoBulk d + 1
  | .slice elems spare => uptoBulkAll elems + uptoBulkAll spare + 1
  | .agg parts => uptoBulkAll parts + 1
  | .iface _ d => uptoBulk d + 1
  | .map entries => uptoBulkEntries entries + 1
  | .held _ => 1
def uptoBulkAll {H : Type} : List (DataW H) → Nat
  | [] => 0
  | d :: r => uptoBulk d + uptoBulkAll r
def uptoBulkEntries {H : Type} : List (Lit × DataW H) → Nat
  | [] => 0
  | x :: r => uptoBulkEntry x + uptoBulkEntries r
def uptoBulkEntry {H : Type} : Lit × DataW H → Nat
  | (.string bytes, d) => bytes.length + uptoBulk d + 1
  | (_, d) => uptoBulk d + 1
 end
def uptoSmall : (H : Type) → List (DataW H) → Bool := fun _ ds => decide (uptoBulkAll ds ≤ 1048576)
def OpenSpec.upto (s : _root_.Go.ChangeSpec) : _root_.Go.OpenSpec := { _root_.Go.OpenSpec.ofChange s with cond := some uptoSmall }

/-- 'laws.FnExactFormatEvent', WHERE WHAT IT READS IS OF BULK AT MOST 1048576: true; the input reads as it did. -/
def fnExactFormatEventUptoRow : OpenClaim := { program := "ythagafkjlecagaa", sum := "1d53e8c9f904601dd7f4381beb82a486566f38615014a1430ad0b93f15332b8d", func := "loop.example/watershares/laws.FnExactFormatEvent", spec := "fnExactFormatEvent", recurses := true, apart := false, narrowed := true }
def FnExactFormatEventUptoSaid : Prop := fnExactFormatEventUptoRow.holds Try.pinned (OpenSpec.upto fnExactFormatEventSpec)

/-- 'laws.FnFormatEvent', WHERE WHAT IT READS IS OF BULK AT MOST 1048576: true; the input reads as it did. -/
def fnFormatEventUptoRow : OpenClaim := { program := "ythagafkjlecagaa", sum := "1d53e8c9f904601dd7f4381beb82a486566f38615014a1430ad0b93f15332b8d", func := "loop.example/watershares/laws.FnFormatEvent", spec := "fnFormatEvent", recurses := true, apart := false, narrowed := true }
def FnFormatEventUptoSaid : Prop := fnFormatEventUptoRow.holds Try.pinned (OpenSpec.upto fnFormatEventSpec)

/-- 'laws.FnExactParseEvent', WHERE WHAT IT READS IS OF BULK AT MOST 1048576: true; the input reads as it did. -/
def fnExactParseEventUptoRow : OpenClaim := { program := "ythagafkjlecagaa", sum := "1d53e8c9f904601dd7f4381beb82a486566f38615014a1430ad0b93f15332b8d", func := "loop.example/watershares/laws.FnExactParseEvent", spec := "fnExactParseEvent", recurses := true, apart := false, narrowed := true }
def FnExactParseEventUptoSaid : Prop := fnExactParseEventUptoRow.holds Try.pinned (OpenSpec.upto fnExactParseEventSpec)

/-- 'laws.FnParseEvent', WHERE WHAT IT READS IS OF BULK AT MOST 1048576: true; the input reads as it did. -/
def fnParseEventUptoRow : OpenClaim := { program := "ythagafkjlecagaa", sum := "1d53e8c9f904601dd7f4381beb82a486566f38615014a1430ad0b93f15332b8d", func := "loop.example/watershares/laws.FnParseEvent", spec := "fnParseEvent", recurses := true, apart := false, narrowed := true }
def FnParseEventUptoSaid : Prop := fnParseEventUptoRow.holds Try.pinned (OpenSpec.upto fnParseEventSpec)

/-- 'laws.FnExactFormatBook', WHERE WHAT IT READS IS OF BULK AT MOST 1048576: true; the input reads as it did. -/
def fnExactFormatBookUptoRow : OpenClaim := { program := "ythagafkjlecagaa", sum := "1d53e8c9f904601dd7f4381beb82a486566f38615014a1430ad0b93f15332b8d", func := "loop.example/watershares/laws.FnExactFormatBook", spec := "fnExactFormatBook", recurses := true, apart := false, narrowed := true }
def FnExactFormatBookUptoSaid : Prop := fnExactFormatBookUptoRow.holds Try.pinned (OpenSpec.upto fnExactFormatBookSpec)

/-- 'laws.FnExactRecoverBook', WHERE WHAT IT READS IS OF BULK AT MOST 1048576: true; the input reads as it did. -/
def fnExactRecoverBookUptoRow : OpenClaim := { program := "ythagafkjlecagaa", sum := "1d53e8c9f904601dd7f4381beb82a486566f38615014a1430ad0b93f15332b8d", func := "loop.example/watershares/laws.FnExactRecoverBook", spec := "fnExactRecoverBook", recurses := true, apart := false, narrowed := true }
def FnExactRecoverBookUptoSaid : Prop := fnExactRecoverBookUptoRow.holds Try.pinned (OpenSpec.upto fnExactRecoverBookSpec)

/-- 'laws.FnRecoverBook', WHERE WHAT IT READS IS OF BULK AT MOST 1048576: true; the input reads as it did. -/
def fnRecoverBookUptoRow : OpenClaim := { program := "ythagafkjlecagaa", sum := "1d53e8c9f904601dd7f4381beb82a486566f38615014a1430ad0b93f15332b8d", func := "loop.example/watershares/laws.FnRecoverBook", spec := "fnRecoverBook", recurses := true, apart := false, narrowed := true }
def FnRecoverBookUptoSaid : Prop := fnRecoverBookUptoRow.holds Try.pinned (OpenSpec.upto fnRecoverBookSpec)

end Rows
end Go.Proofs.Ythagafkjlecagaa
