/-
  No cell of these rows narrows 'for every input' (looked for: loops, veiled, ifaces, maps, wideKeys, modest, calm, conditions, laid).
  DERIVED. THE GIVEN ROWS OF THIS SEAT. 11 by the template 'for every input the law returns true; each argument reads behind the call as it read before'; 0 by the template 'total and deterministic' (their statements: YtigapnbpgbfbhaaTotals.lean).
  GIVEN WITH THE SEED: the statements are not yours to turn. If you find one false, say at which input.
  Laid BY PROGRAM, IN A SANDBOX (cutbox-rows.mjs): the forced cells as the released guide's own fill.sh prints them over the translation 65e31de18d0870ac… (all of the seat's roots in one cut). By AI agents, Wed Nov 11 2026. No macro, syntax, notation, axiom, sorry.
-/
import Derived.Test.YtigapnbpgbfbhaaChecked
import GoSem.Claim
import GoSem.ClaimJoined
import GoSem.ClaimMapViews
import Derived.JoinedTies
import Derived.KernelRfl
namespace Go.Proofs.Ytigapnbpgbfbhaa
/- THE CELL 'sum', in the pinned program and in every row, IS THE sha256 OF THE DUMP (.gsa) THAT YtigapnbpgbfbhaaProg.lean LOADS. Nothing in Lean hashes anything: it is a label: what it is worth is what the hold of that sum in a sandbox is worth. -/
noncomputable def Try.pinned : Pinned := { name := "ytigapnbpgbfbhaa", sum := "65e31de18d0870ac09ac0002e275a8dd9dfde31b428a22bef3396bd3e55cfe46", checked := Try.checked }
namespace Rows
def none {H : Type} : Left H := { results := [], args := [] }

/-- 'laws.FnExactExpectedAt': WHATEVER THE INPUT: true; the input reads as it did. -/
def fnExactExpectedAtSpec : ChangeSpec := { name := "fnExactExpectedAt", fn := fun _ => fun
  | [d1, d2] => { results := [.lit (.bool true)], args := [d1, d2] }
  | _ => none }
def fnExactExpectedAtRow : OpenClaim := { program := "ytigapnbpgbfbhaa", sum := "65e31de18d0870ac09ac0002e275a8dd9dfde31b428a22bef3396bd3e55cfe46", func := "loop.example/watershares/laws.FnExactExpectedAt", spec := "fnExactExpectedAt", apart := false }
def FnExactExpectedAtSaid : Prop := fnExactExpectedAtRow.holds Try.pinned (OpenSpec.ofChange fnExactExpectedAtSpec)

/-- ITS FALSE NEIGHBOUR: 'it returns false'. Refute it at one input. -/
def fnExactExpectedAtWrong : ChangeSpec := { name := "fnExactExpectedAt", fn := fun _ => fun
  | [d1, d2] => { results := [.lit (.bool false)], args := [d1, d2] }
  | _ => none }
def FnExactExpectedAtWrongFalsely : Prop := fnExactExpectedAtRow.holds Try.pinned (OpenSpec.ofChange fnExactExpectedAtWrong)

/-- 'laws.FnExactMissingAt': WHATEVER THE INPUT: true; the input reads as it did. -/
def fnExactMissingAtSpec : ChangeSpec := { name := "fnExactMissingAt", fn := fun _ => fun
  | [d1, d2] => { results := [.lit (.bool true)], args := [d1, d2] }
  | _ => none }
def fnExactMissingAtRow : OpenClaim := { program := "ytigapnbpgbfbhaa", sum := "65e31de18d0870ac09ac0002e275a8dd9dfde31b428a22bef3396bd3e55cfe46", func := "loop.example/watershares/laws.FnExactMissingAt", spec := "fnExactMissingAt", apart := false }
def FnExactMissingAtSaid : Prop := fnExactMissingAtRow.holds Try.pinned (OpenSpec.ofChange fnExactMissingAtSpec)

/-- ITS FALSE NEIGHBOUR: 'it returns false'. Refute it at one input. -/
def fnExactMissingAtWrong : ChangeSpec := { name := "fnExactMissingAt", fn := fun _ => fun
  | [d1, d2] => { results := [.lit (.bool false)], args := [d1, d2] }
  | _ => none }
def FnExactMissingAtWrongFalsely : Prop := fnExactMissingAtRow.holds Try.pinned (OpenSpec.ofChange fnExactMissingAtWrong)

/-- 'laws.FnExactSuspectsOf': WHATEVER THE INPUT: true; the input reads as it did. -/
def fnExactSuspectsOfSpec : ChangeSpec := { name := "fnExactSuspectsOf", fn := fun _ => fun
  | [d1, d2, d3] => { results := [.lit (.bool true)], args := [d1, d2, d3] }
  | _ => none }
def fnExactSuspectsOfRow : OpenClaim := { program := "ytigapnbpgbfbhaa", sum := "65e31de18d0870ac09ac0002e275a8dd9dfde31b428a22bef3396bd3e55cfe46", func := "loop.example/watershares/laws.FnExactSuspectsOf", spec := "fnExactSuspectsOf", apart := false }
def FnExactSuspectsOfSaid : Prop := fnExactSuspectsOfRow.holds Try.pinned (OpenSpec.ofChange fnExactSuspectsOfSpec)

/-- ITS FALSE NEIGHBOUR: 'it returns false'. Refute it at one input. -/
def fnExactSuspectsOfWrong : ChangeSpec := { name := "fnExactSuspectsOf", fn := fun _ => fun
  | [d1, d2, d3] => { results := [.lit (.bool false)], args := [d1, d2, d3] }
  | _ => none }
def FnExactSuspectsOfWrongFalsely : Prop := fnExactSuspectsOfRow.holds Try.pinned (OpenSpec.ofChange fnExactSuspectsOfWrong)

/-- 'laws.FnExactMeasuredWith': WHATEVER THE INPUT: true; the input reads as it did. -/
def fnExactMeasuredWithSpec : ChangeSpec := { name := "fnExactMeasuredWith", fn := fun _ => fun
  | [d1, d2, d3] => { results := [.lit (.bool true)], args := [d1, d2, d3] }
  | _ => none }
def fnExactMeasuredWithRow : OpenClaim := { program := "ytigapnbpgbfbhaa", sum := "65e31de18d0870ac09ac0002e275a8dd9dfde31b428a22bef3396bd3e55cfe46", func := "loop.example/watershares/laws.FnExactMeasuredWith", spec := "fnExactMeasuredWith", apart := false }
def FnExactMeasuredWithSaid : Prop := fnExactMeasuredWithRow.holds Try.pinned (OpenSpec.ofChange fnExactMeasuredWithSpec)

/-- ITS FALSE NEIGHBOUR: 'it returns false'. Refute it at one input. -/
def fnExactMeasuredWithWrong : ChangeSpec := { name := "fnExactMeasuredWith", fn := fun _ => fun
  | [d1, d2, d3] => { results := [.lit (.bool false)], args := [d1, d2, d3] }
  | _ => none }
def FnExactMeasuredWithWrongFalsely : Prop := fnExactMeasuredWithRow.holds Try.pinned (OpenSpec.ofChange fnExactMeasuredWithWrong)

/-- 'laws.FnExpectedAt': WHATEVER THE INPUT: true; the input reads as it did. -/
def fnExpectedAtSpec : ChangeSpec := { name := "fnExpectedAt", fn := fun _ => fun
  | [d] => { results := [.lit (.bool true)], args := [d] }
  | _ => none }
def fnExpectedAtRow : OpenClaim := { program := "ytigapnbpgbfbhaa", sum := "65e31de18d0870ac09ac0002e275a8dd9dfde31b428a22bef3396bd3e55cfe46", func := "loop.example/watershares/laws.FnExpectedAt", spec := "fnExpectedAt", apart := false }
def FnExpectedAtSaid : Prop := fnExpectedAtRow.holds Try.pinned (OpenSpec.ofChange fnExpectedAtSpec)

/-- ITS FALSE NEIGHBOUR: 'it returns false'. Refute it at one input. -/
def fnExpectedAtWrong : ChangeSpec := { name := "fnExpectedAt", fn := fun _ => fun
  | [d] => { results := [.lit (.bool false)], args := [d] }
  | _ => none }
def FnExpectedAtWrongFalsely : Prop := fnExpectedAtRow.holds Try.pinned (OpenSpec.ofChange fnExpectedAtWrong)

/-- 'laws.FnMissingAt': WHATEVER THE INPUT: true; the input reads as it did. -/
def fnMissingAtSpec : ChangeSpec := { name := "fnMissingAt", fn := fun _ => fun
  | [d] => { results := [.lit (.bool true)], args := [d] }
  | _ => none }
def fnMissingAtRow : OpenClaim := { program := "ytigapnbpgbfbhaa", sum := "65e31de18d0870ac09ac0002e275a8dd9dfde31b428a22bef3396bd3e55cfe46", func := "loop.example/watershares/laws.FnMissingAt", spec := "fnMissingAt", apart := false }
def FnMissingAtSaid : Prop := fnMissingAtRow.holds Try.pinned (OpenSpec.ofChange fnMissingAtSpec)

/-- ITS FALSE NEIGHBOUR: 'it returns false'. Refute it at one input. -/
def fnMissingAtWrong : ChangeSpec := { name := "fnMissingAt", fn := fun _ => fun
  | [d] => { results := [.lit (.bool false)], args := [d] }
  | _ => none }
def FnMissingAtWrongFalsely : Prop := fnMissingAtRow.holds Try.pinned (OpenSpec.ofChange fnMissingAtWrong)

/-- 'laws.FnMissingAtSum': WHATEVER THE INPUT: true; the input reads as it did. -/
def fnMissingAtSumSpec : ChangeSpec := { name := "fnMissingAtSum", fn := fun _ => fun
  | [d] => { results := [.lit (.bool true)], args := [d] }
  | _ => none }
def fnMissingAtSumRow : OpenClaim := { program := "ytigapnbpgbfbhaa", sum := "65e31de18d0870ac09ac0002e275a8dd9dfde31b428a22bef3396bd3e55cfe46", func := "loop.example/watershares/laws.FnMissingAtSum", spec := "fnMissingAtSum", apart := false }
def FnMissingAtSumSaid : Prop := fnMissingAtSumRow.holds Try.pinned (OpenSpec.ofChange fnMissingAtSumSpec)

/-- ITS FALSE NEIGHBOUR: 'it returns false'. Refute it at one input. -/
def fnMissingAtSumWrong : ChangeSpec := { name := "fnMissingAtSum", fn := fun _ => fun
  | [d] => { results := [.lit (.bool false)], args := [d] }
  | _ => none }
def FnMissingAtSumWrongFalsely : Prop := fnMissingAtSumRow.holds Try.pinned (OpenSpec.ofChange fnMissingAtSumWrong)

/-- 'laws.FnSuspectsOf': WHATEVER THE INPUT: true; the input reads as it did. -/
def fnSuspectsOfSpec : ChangeSpec := { name := "fnSuspectsOf", fn := fun _ => fun
  | [d] => { results := [.lit (.bool true)], args := [d] }
  | _ => none }
def fnSuspectsOfRow : OpenClaim := { program := "ytigapnbpgbfbhaa", sum := "65e31de18d0870ac09ac0002e275a8dd9dfde31b428a22bef3396bd3e55cfe46", func := "loop.example/watershares/laws.FnSuspectsOf", spec := "fnSuspectsOf", apart := false }
def FnSuspectsOfSaid : Prop := fnSuspectsOfRow.holds Try.pinned (OpenSpec.ofChange fnSuspectsOfSpec)

/-- ITS FALSE NEIGHBOUR: 'it returns false'. Refute it at one input. -/
def fnSuspectsOfWrong : ChangeSpec := { name := "fnSuspectsOf", fn := fun _ => fun
  | [d] => { results := [.lit (.bool false)], args := [d] }
  | _ => none }
def FnSuspectsOfWrongFalsely : Prop := fnSuspectsOfRow.holds Try.pinned (OpenSpec.ofChange fnSuspectsOfWrong)

/-- 'laws.FnSuspectsOfNone': WHATEVER THE INPUT: true; the input reads as it did. -/
def fnSuspectsOfNoneSpec : ChangeSpec := { name := "fnSuspectsOfNone", fn := fun _ => fun
  | [d] => { results := [.lit (.bool true)], args := [d] }
  | _ => none }
def fnSuspectsOfNoneRow : OpenClaim := { program := "ytigapnbpgbfbhaa", sum := "65e31de18d0870ac09ac0002e275a8dd9dfde31b428a22bef3396bd3e55cfe46", func := "loop.example/watershares/laws.FnSuspectsOfNone", spec := "fnSuspectsOfNone", apart := false }
def FnSuspectsOfNoneSaid : Prop := fnSuspectsOfNoneRow.holds Try.pinned (OpenSpec.ofChange fnSuspectsOfNoneSpec)

/-- ITS FALSE NEIGHBOUR: 'it returns false'. Refute it at one input. -/
def fnSuspectsOfNoneWrong : ChangeSpec := { name := "fnSuspectsOfNone", fn := fun _ => fun
  | [d] => { results := [.lit (.bool false)], args := [d] }
  | _ => none }
def FnSuspectsOfNoneWrongFalsely : Prop := fnSuspectsOfNoneRow.holds Try.pinned (OpenSpec.ofChange fnSuspectsOfNoneWrong)

/-- 'laws.FnMeasuredWith': WHATEVER THE INPUT: true; the input reads as it did. -/
def fnMeasuredWithSpec : ChangeSpec := { name := "fnMeasuredWith", fn := fun _ => fun
  | [d] => { results := [.lit (.bool true)], args := [d] }
  | _ => none }
def fnMeasuredWithRow : OpenClaim := { program := "ytigapnbpgbfbhaa", sum := "65e31de18d0870ac09ac0002e275a8dd9dfde31b428a22bef3396bd3e55cfe46", func := "loop.example/watershares/laws.FnMeasuredWith", spec := "fnMeasuredWith", apart := false }
def FnMeasuredWithSaid : Prop := fnMeasuredWithRow.holds Try.pinned (OpenSpec.ofChange fnMeasuredWithSpec)

/-- ITS FALSE NEIGHBOUR: 'it returns false'. Refute it at one input. -/
def fnMeasuredWithWrong : ChangeSpec := { name := "fnMeasuredWith", fn := fun _ => fun
  | [d] => { results := [.lit (.bool false)], args := [d] }
  | _ => none }
def FnMeasuredWithWrongFalsely : Prop := fnMeasuredWithRow.holds Try.pinned (OpenSpec.ofChange fnMeasuredWithWrong)

/-- 'laws.FnExactDutyOrder': WHATEVER THE INPUT: true; the input reads as it did. -/
def fnExactDutyOrderSpec : ChangeSpec := { name := "fnExactDutyOrder", fn := fun _ => fun
  | [d1, d2] => { results := [.lit (.bool true)], args := [d1, d2] }
  | _ => none }
def fnExactDutyOrderRow : OpenClaim := { program := "ytigapnbpgbfbhaa", sum := "65e31de18d0870ac09ac0002e275a8dd9dfde31b428a22bef3396bd3e55cfe46", func := "loop.example/watershares/laws.FnExactDutyOrder", spec := "fnExactDutyOrder", apart := false }
def FnExactDutyOrderSaid : Prop := fnExactDutyOrderRow.holds Try.pinned (OpenSpec.ofChange fnExactDutyOrderSpec)

/-- ITS FALSE NEIGHBOUR: 'it returns false'. Refute it at one input. -/
def fnExactDutyOrderWrong : ChangeSpec := { name := "fnExactDutyOrder", fn := fun _ => fun
  | [d1, d2] => { results := [.lit (.bool false)], args := [d1, d2] }
  | _ => none }
def FnExactDutyOrderWrongFalsely : Prop := fnExactDutyOrderRow.holds Try.pinned (OpenSpec.ofChange fnExactDutyOrderWrong)

/- THE SECOND FORM. 'bulk': how many values and letters a reading holds, each counted each time it is reached (what is shared counts as often as it is met; a slice's spare places count too). A statement '..UptoSaid' is the law's where the arguments, and the package variables that the reading takes, are together of bulk at most 1048576: NARROWER than '..Said'. Prove '..Said' where nothing that the law and all that it calls make is longer than what came in: it says more and counts as full. Else prove '..UptoSaid'. A law counts once. -/
mutual
def uptoBulk {H : Type} : DataW H → Nat
  | .lit (.string bytes) => bytes.length + 1
  | .lit _ => 1
  | .nil => 1
  | .ptr d => uptoBulk d + 1
  | .slice elems spare => uptoBulkAll elems + uptoBulkAll spare + 1
  | .agg parts => uptoBulkAll parts + 1
  | .iface _ d => uptoBulk d + 1
  | .map entries => uptoBulkEntries entries + 1
  | .held _ => 1
def uptoBulkAll {H : Type} : List (DataW H) → Nat
  | [] => 0
  | d :: r => uptoBulk d + uptoBulkAll r
def uptoBulkEntries {H : Type} : List (Lit × DataW H) → Nat
  | [] => 0
  | x :: r => uptoBulkEntry x + uptoBulkEntries r
def uptoBulkEntry {H : Type} : Lit × DataW H → Nat
  | (.string bytes, d) => bytes.length + uptoBulk d + 1
  | (_, d) => uptoBulk d + 1
 end
def uptoSmall : (H : Type) → List (DataW H) → Bool := fun _ ds => decide (uptoBulkAll ds ≤ 1048576)
def OpenSpec.upto (s : _root_.Go.ChangeSpec) : _root_.Go.OpenSpec := { _root_.Go.OpenSpec.ofChange s with cond := some uptoSmall }

/-- 'laws.FnExactExpectedAt', WHERE WHAT IT READS IS OF BULK AT MOST 1048576: true; the input reads as it did. -/
def fnExactExpectedAtUptoRow : OpenClaim := { program := "ytigapnbpgbfbhaa", sum := "65e31de18d0870ac09ac0002e275a8dd9dfde31b428a22bef3396bd3e55cfe46", func := "loop.example/watershares/laws.FnExactExpectedAt", spec := "fnExactExpectedAt", apart := false, narrowed := true }
def FnExactExpectedAtUptoSaid : Prop := fnExactExpectedAtUptoRow.holds Try.pinned (OpenSpec.upto fnExactExpectedAtSpec)

/-- 'laws.FnExactMissingAt', WHERE WHAT IT READS IS OF BULK AT MOST 1048576: true; the input reads as it did. -/
def fnExactMissingAtUptoRow : OpenClaim := { program := "ytigapnbpgbfbhaa", sum := "65e31de18d0870ac09ac0002e275a8dd9dfde31b428a22bef3396bd3e55cfe46", func := "loop.example/watershares/laws.FnExactMissingAt", spec := "fnExactMissingAt", apart := false, narrowed := true }
def FnExactMissingAtUptoSaid : Prop := fnExactMissingAtUptoRow.holds Try.pinned (OpenSpec.upto fnExactMissingAtSpec)

/-- 'laws.FnExactSuspectsOf', WHERE WHAT IT READS IS OF BULK AT MOST 1048576: true; the input reads as it did. -/
def fnExactSuspectsOfUptoRow : OpenClaim := { program := "ytigapnbpgbfbhaa", sum := "65e31de18d0870ac09ac0002e275a8dd9dfde31b428a22bef3396bd3e55cfe46", func := "loop.example/watershares/laws.FnExactSuspectsOf", spec := "fnExactSuspectsOf", apart := false, narrowed := true }
def FnExactSuspectsOfUptoSaid : Prop := fnExactSuspectsOfUptoRow.holds Try.pinned (OpenSpec.upto fnExactSuspectsOfSpec)

/-- 'laws.FnExactMeasuredWith', WHERE WHAT IT READS IS OF BULK AT MOST 1048576: true; the input reads as it did. -/
def fnExactMeasuredWithUptoRow : OpenClaim := { program := "ytigapnbpgbfbhaa", sum := "65e31de18d0870ac09ac0002e275a8dd9dfde31b428a22bef3396bd3e55cfe46", func := "loop.example/watershares/laws.FnExactMeasuredWith", spec := "fnExactMeasuredWith", apart := false, narrowed := true }
def FnExactMeasuredWithUptoSaid : Prop := fnExactMeasuredWithUptoRow.holds Try.pinned (OpenSpec.upto fnExactMeasuredWithSpec)

/-- 'laws.FnExpectedAt', WHERE WHAT IT READS IS OF BULK AT MOST 1048576: true; the input reads as it did. -/
def fnExpectedAtUptoRow : OpenClaim := { program := "ytigapnbpgbfbhaa", sum := "65e31de18d0870ac09ac0002e275a8dd9dfde31b428a22bef3396bd3e55cfe46", func := "loop.example/watershares/laws.FnExpectedAt", spec := "fnExpectedAt", apart := false, narrowed := true }
def FnExpectedAtUptoSaid : Prop := fnExpectedAtUptoRow.holds Try.pinned (OpenSpec.upto fnExpectedAtSpec)

/-- 'laws.FnMissingAt', WHERE WHAT IT READS IS OF BULK AT MOST 1048576: true; the input reads as it did. -/
def fnMissingAtUptoRow : OpenClaim := { program := "ytigapnbpgbfbhaa", sum := "65e31de18d0870ac09ac0002e275a8dd9dfde31b428a22bef3396bd3e55cfe46", func := "loop.example/watershares/laws.FnMissingAt", spec := "fnMissingAt", apart := false, narrowed := true }
def FnMissingAtUptoSaid : Prop := fnMissingAtUptoRow.holds Try.pinned (OpenSpec.upto fnMissingAtSpec)

/-- 'laws.FnMissingAtSum', WHERE WHAT IT READS IS OF BULK AT MOST 1048576: true; the input reads as it did. -/
def fnMissingAtSumUptoRow : OpenClaim := { program := "ytigapnbpgbfbhaa", sum := "65e31de18d0870ac09ac0002e275a8dd9dfde31b428a22bef3396bd3e55cfe46", func := "loop.example/watershares/laws.FnMissingAtSum", spec := "fnMissingAtSum", apart := false, narrowed := true }
def FnMissingAtSumUptoSaid : Prop := fnMissingAtSumUptoRow.holds Try.pinned (OpenSpec.upto fnMissingAtSumSpec)

/-- 'laws.FnSuspectsOf', WHERE WHAT IT READS IS OF BULK AT MOST 1048576: true; the input reads as it did. -/
def fnSuspectsOfUptoRow : OpenClaim := { program := "ytigapnbpgbfbhaa", sum := "65e31de18d0870ac09ac0002e275a8dd9dfde31b428a22bef3396bd3e55cfe46", func := "loop.example/watershares/laws.FnSuspectsOf", spec := "fnSuspectsOf", apart := false, narrowed := true }
def FnSuspectsOfUptoSaid : Prop := fnSuspectsOfUptoRow.holds Try.pinned (OpenSpec.upto fnSuspectsOfSpec)

/-- 'laws.FnSuspectsOfNone', WHERE WHAT IT READS IS OF BULK AT MOST 1048576: true; the input reads as it did. -/
def fnSuspectsOfNoneUptoRow : OpenClaim := { program := "ytigapnbpgbfbhaa", sum := "65e31de18d0870ac09ac0002e275a8dd9dfde31b428a22bef3396bd3e55cfe46", func := "loop.example/watershares/laws.FnSuspectsOfNone", spec := "fnSuspectsOfNone", apart := false, narrowed := true }
def FnSuspectsOfNoneUptoSaid : Prop := fnSuspectsOfNoneUptoRow.holds Try.pinned (OpenSpec.upto fnSuspectsOfNoneSpec)

/-- 'laws.FnMeasuredWith', WHERE WHAT IT READS IS OF BULK AT MOST 1048576: true; the input reads as it did. -/
def fnMeasuredWithUptoRow : OpenClaim := { program := "ytigapnbpgbfbhaa", sum := "65e31de18d0870ac09ac0002e275a8dd9dfde31b428a22bef3396bd3e55cfe46", func := "loop.example/watershares/laws.FnMeasuredWith", spec := "fnMeasuredWith", apart := false, narrowed := true }
def FnMeasuredWithUptoSaid : Prop := fnMeasuredWithUptoRow.holds Try.pinned (OpenSpec.upto fnMeasuredWithSpec)

/-- 'laws.FnExactDutyOrder', WHERE WHAT IT READS IS OF BULK AT MOST 1048576: true; the input reads as it did. -/
def fnExactDutyOrderUptoRow : OpenClaim := { program := "ytigapnbpgbfbhaa", sum := "65e31de18d0870ac09ac0002e275a8dd9dfde31b428a22bef3396bd3e55cfe46", func := "loop.example/watershares/laws.FnExactDutyOrder", spec := "fnExactDutyOrder", apart := false, narrowed := true }
def FnExactDutyOrderUptoSaid : Prop := fnExactDutyOrderUptoRow.holds Try.pinned (OpenSpec.upto fnExactDutyOrderSpec)

end Rows
end Go.Proofs.Ytigapnbpgbfbhaa
