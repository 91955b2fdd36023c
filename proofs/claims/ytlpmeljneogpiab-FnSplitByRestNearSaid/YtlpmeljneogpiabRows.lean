/-
  No cell of these rows narrows 'for every input' (looked for: loops, veiled, ifaces, maps, wideKeys, modest, calm, conditions, laid).
  DERIVED. THE GIVEN ROWS OF THIS SEAT. 9 by the template 'for every input the law returns true; each argument reads behind the call as it read before'; 0 by the template 'total and deterministic' (their statements: YtlpmeljneogpiabTotals.lean).
  GIVEN WITH THE SEED: the statements are not yours to turn. If you find one false, say at which input.
  Laid BY PROGRAM, IN A SANDBOX (cutbox-rows.mjs): the forced cells as the released guide's own fill.sh prints them over the translation 5d9b5d32908e09c3… (all of the seat's roots in one cut). By AI agents, Wed Nov 11 2026. No macro, syntax, notation, axiom, sorry.
-/
import Derived.Test.YtlpmeljneogpiabChecked
import GoSem.Claim
import GoSem.ClaimJoined
import GoSem.ClaimMapViews
import Derived.JoinedTies
import Derived.KernelRfl
namespace Go.Proofs.Ytlpmeljneogpiab
/- THE CELL 'sum', in the pinned program and in every row, IS THE sha256 OF THE DUMP (.gsa) THAT YtlpmeljneogpiabProg.lean LOADS. Nothing in Lean hashes anything: it is a label: what it is worth is what the hold of that sum in a sandbox is worth. -/
noncomputable def Try.pinned : Pinned := { name := "ytlpmeljneogpiab", sum := "5d9b5d32908e09c377626dd62c7f990840273ae5eb27d81aaceb92cdd3f7b422", checked := Try.checked }
namespace Rows
def none {H : Type} : Left H := { results := [], args := [] }

/-- 'laws.FnNeedFor': WHATEVER THE INPUT: true; the input reads as it did. -/
def fnNeedForSpec : ChangeSpec := { name := "fnNeedFor", fn := fun _ => fun
  | [d] => { results := [.lit (.bool true)], args := [d] }
  | _ => none }
def fnNeedForRow : OpenClaim := { program := "ytlpmeljneogpiab", sum := "5d9b5d32908e09c377626dd62c7f990840273ae5eb27d81aaceb92cdd3f7b422", func := "loop.example/watershares/laws.FnNeedFor", spec := "fnNeedFor", apart := false }
def FnNeedForSaid : Prop := fnNeedForRow.holds Try.pinned (OpenSpec.ofChange fnNeedForSpec)

/-- ITS FALSE NEIGHBOUR: 'it returns false'. Refute it at one input. -/
def fnNeedForWrong : ChangeSpec := { name := "fnNeedFor", fn := fun _ => fun
  | [d] => { results := [.lit (.bool false)], args := [d] }
  | _ => none }
def FnNeedForWrongFalsely : Prop := fnNeedForRow.holds Try.pinned (OpenSpec.ofChange fnNeedForWrong)

/-- 'laws.FnNeedForNone': WHATEVER THE INPUT: true; the input reads as it did. -/
def fnNeedForNoneSpec : ChangeSpec := { name := "fnNeedForNone", fn := fun _ => fun
  | [d] => { results := [.lit (.bool true)], args := [d] }
  | _ => none }
def fnNeedForNoneRow : OpenClaim := { program := "ytlpmeljneogpiab", sum := "5d9b5d32908e09c377626dd62c7f990840273ae5eb27d81aaceb92cdd3f7b422", func := "loop.example/watershares/laws.FnNeedForNone", spec := "fnNeedForNone", apart := false }
def FnNeedForNoneSaid : Prop := fnNeedForNoneRow.holds Try.pinned (OpenSpec.ofChange fnNeedForNoneSpec)

/-- ITS FALSE NEIGHBOUR: 'it returns false'. Refute it at one input. -/
def fnNeedForNoneWrong : ChangeSpec := { name := "fnNeedForNone", fn := fun _ => fun
  | [d] => { results := [.lit (.bool false)], args := [d] }
  | _ => none }
def FnNeedForNoneWrongFalsely : Prop := fnNeedForNoneRow.holds Try.pinned (OpenSpec.ofChange fnNeedForNoneWrong)

/-- 'laws.FnSetGate': WHATEVER THE INPUT: true; the input reads as it did. -/
def fnSetGateSpec : ChangeSpec := { name := "fnSetGate", fn := fun _ => fun
  | [d] => { results := [.lit (.bool true)], args := [d] }
  | _ => none }
def fnSetGateRow : OpenClaim := { program := "ytlpmeljneogpiab", sum := "5d9b5d32908e09c377626dd62c7f990840273ae5eb27d81aaceb92cdd3f7b422", func := "loop.example/watershares/laws.FnSetGate", spec := "fnSetGate", apart := false }
def FnSetGateSaid : Prop := fnSetGateRow.holds Try.pinned (OpenSpec.ofChange fnSetGateSpec)

/-- ITS FALSE NEIGHBOUR: 'it returns false'. Refute it at one input. -/
def fnSetGateWrong : ChangeSpec := { name := "fnSetGate", fn := fun _ => fun
  | [d] => { results := [.lit (.bool false)], args := [d] }
  | _ => none }
def FnSetGateWrongFalsely : Prop := fnSetGateRow.holds Try.pinned (OpenSpec.ofChange fnSetGateWrong)

/-- 'laws.FnSetGateOthers': WHATEVER THE INPUT: true; the input reads as it did. -/
def fnSetGateOthersSpec : ChangeSpec := { name := "fnSetGateOthers", fn := fun _ => fun
  | [d] => { results := [.lit (.bool true)], args := [d] }
  | _ => none }
def fnSetGateOthersRow : OpenClaim := { program := "ytlpmeljneogpiab", sum := "5d9b5d32908e09c377626dd62c7f990840273ae5eb27d81aaceb92cdd3f7b422", func := "loop.example/watershares/laws.FnSetGateOthers", spec := "fnSetGateOthers", apart := false }
def FnSetGateOthersSaid : Prop := fnSetGateOthersRow.holds Try.pinned (OpenSpec.ofChange fnSetGateOthersSpec)

/-- ITS FALSE NEIGHBOUR: 'it returns false'. Refute it at one input. -/
def fnSetGateOthersWrong : ChangeSpec := { name := "fnSetGateOthers", fn := fun _ => fun
  | [d] => { results := [.lit (.bool false)], args := [d] }
  | _ => none }
def FnSetGateOthersWrongFalsely : Prop := fnSetGateOthersRow.holds Try.pinned (OpenSpec.ofChange fnSetGateOthersWrong)

/-- 'laws.FnArriveAt': WHATEVER THE INPUT: true; the input reads as it did. -/
def fnArriveAtSpec : ChangeSpec := { name := "fnArriveAt", fn := fun _ => fun
  | [d] => { results := [.lit (.bool true)], args := [d] }
  | _ => none }
def fnArriveAtRow : OpenClaim := { program := "ytlpmeljneogpiab", sum := "5d9b5d32908e09c377626dd62c7f990840273ae5eb27d81aaceb92cdd3f7b422", func := "loop.example/watershares/laws.FnArriveAt", spec := "fnArriveAt", apart := false }
def FnArriveAtSaid : Prop := fnArriveAtRow.holds Try.pinned (OpenSpec.ofChange fnArriveAtSpec)

/-- ITS FALSE NEIGHBOUR: 'it returns false'. Refute it at one input. -/
def fnArriveAtWrong : ChangeSpec := { name := "fnArriveAt", fn := fun _ => fun
  | [d] => { results := [.lit (.bool false)], args := [d] }
  | _ => none }
def FnArriveAtWrongFalsely : Prop := fnArriveAtRow.holds Try.pinned (OpenSpec.ofChange fnArriveAtWrong)

/-- 'laws.FnArriveAtSum': WHATEVER THE INPUT: true; the input reads as it did. -/
def fnArriveAtSumSpec : ChangeSpec := { name := "fnArriveAtSum", fn := fun _ => fun
  | [d] => { results := [.lit (.bool true)], args := [d] }
  | _ => none }
def fnArriveAtSumRow : OpenClaim := { program := "ytlpmeljneogpiab", sum := "5d9b5d32908e09c377626dd62c7f990840273ae5eb27d81aaceb92cdd3f7b422", func := "loop.example/watershares/laws.FnArriveAtSum", spec := "fnArriveAtSum", apart := false }
def FnArriveAtSumSaid : Prop := fnArriveAtSumRow.holds Try.pinned (OpenSpec.ofChange fnArriveAtSumSpec)

/-- ITS FALSE NEIGHBOUR: 'it returns false'. Refute it at one input. -/
def fnArriveAtSumWrong : ChangeSpec := { name := "fnArriveAtSum", fn := fun _ => fun
  | [d] => { results := [.lit (.bool false)], args := [d] }
  | _ => none }
def FnArriveAtSumWrongFalsely : Prop := fnArriveAtSumRow.holds Try.pinned (OpenSpec.ofChange fnArriveAtSumWrong)

/-- 'laws.FnSplitByRestNear': WHATEVER THE INPUT: true; the input reads as it did. -/
def fnSplitByRestNearSpec : ChangeSpec := { name := "fnSplitByRestNear", fn := fun _ => fun
  | [d] => { results := [.lit (.bool true)], args := [d] }
  | _ => none }
def fnSplitByRestNearRow : OpenClaim := { program := "ytlpmeljneogpiab", sum := "5d9b5d32908e09c377626dd62c7f990840273ae5eb27d81aaceb92cdd3f7b422", func := "loop.example/watershares/laws.FnSplitByRestNear", spec := "fnSplitByRestNear", apart := false }
def FnSplitByRestNearSaid : Prop := fnSplitByRestNearRow.holds Try.pinned (OpenSpec.ofChange fnSplitByRestNearSpec)

/-- ITS FALSE NEIGHBOUR: 'it returns false'. Refute it at one input. -/
def fnSplitByRestNearWrong : ChangeSpec := { name := "fnSplitByRestNear", fn := fun _ => fun
  | [d] => { results := [.lit (.bool false)], args := [d] }
  | _ => none }
def FnSplitByRestNearWrongFalsely : Prop := fnSplitByRestNearRow.holds Try.pinned (OpenSpec.ofChange fnSplitByRestNearWrong)

/-- 'laws.FnSplitByMiddle': WHATEVER THE INPUT: true; the input reads as it did. -/
def fnSplitByMiddleSpec : ChangeSpec := { name := "fnSplitByMiddle", fn := fun _ => fun
  | [d] => { results := [.lit (.bool true)], args := [d] }
  | _ => none }
def fnSplitByMiddleRow : OpenClaim := { program := "ytlpmeljneogpiab", sum := "5d9b5d32908e09c377626dd62c7f990840273ae5eb27d81aaceb92cdd3f7b422", func := "loop.example/watershares/laws.FnSplitByMiddle", spec := "fnSplitByMiddle", apart := false }
def FnSplitByMiddleSaid : Prop := fnSplitByMiddleRow.holds Try.pinned (OpenSpec.ofChange fnSplitByMiddleSpec)

/-- ITS FALSE NEIGHBOUR: 'it returns false'. Refute it at one input. -/
def fnSplitByMiddleWrong : ChangeSpec := { name := "fnSplitByMiddle", fn := fun _ => fun
  | [d] => { results := [.lit (.bool false)], args := [d] }
  | _ => none }
def FnSplitByMiddleWrongFalsely : Prop := fnSplitByMiddleRow.holds Try.pinned (OpenSpec.ofChange fnSplitByMiddleWrong)

/-- 'laws.FnSplitByMiddleMore': WHATEVER THE INPUT: true; the input reads as it did. -/
def fnSplitByMiddleMoreSpec : ChangeSpec := { name := "fnSplitByMiddleMore", fn := fun _ => fun
  | [d] => { results := [.lit (.bool true)], args := [d] }
  | _ => none }
def fnSplitByMiddleMoreRow : OpenClaim := { program := "ytlpmeljneogpiab", sum := "5d9b5d32908e09c377626dd62c7f990840273ae5eb27d81aaceb92cdd3f7b422", func := "loop.example/watershares/laws.FnSplitByMiddleMore", spec := "fnSplitByMiddleMore", apart := false }
def FnSplitByMiddleMoreSaid : Prop := fnSplitByMiddleMoreRow.holds Try.pinned (OpenSpec.ofChange fnSplitByMiddleMoreSpec)

/-- ITS FALSE NEIGHBOUR: 'it returns false'. Refute it at one input. -/
def fnSplitByMiddleMoreWrong : ChangeSpec := { name := "fnSplitByMiddleMore", fn := fun _ => fun
  | [d] => { results := [.lit (.bool false)], args := [d] }
  | _ => none }
def FnSplitByMiddleMoreWrongFalsely : Prop := fnSplitByMiddleMoreRow.holds Try.pinned (OpenSpec.ofChange fnSplitByMiddleMoreWrong)

/- THE SECOND FORM. 'bulk': how many values and letters a reading holds, each counted each time it is reached (what is shared counts as often as it is met; a slice's spare places count too). A statement '..UptoSaid' is the law's where the arguments, and the package variables that the reading takes, are together of bulk at most 1048576: NARROWER than '..Said'. Prove '..Said' where nothing that the law and all that it calls make is longer than what came in: it says more and counts as full. Else prove '..UptoSaid'. A law counts once. -/
mutual
def uptoBulk {H : Type} : DataW H → Nat
  | .lit (.string bytes) => bytes.length + 1
  | .lit _ => 1
  | .nil => 1
  | .ptr d => uptoBulk d + 1
  | .slice elems spare => uptoBulkAll elems + uptoBulkAll spare + 1
  | .agg parts => uptoBulkAll parts + 1
  | .iface _ d => uptoBulk d + 1
  | .map entries => uptoBulkEntries entries + 1
  | .held _ => 1
def uptoBulkAll {H : Type} : List (DataW H) → Nat
  | [] => 0
  | d :: r => uptoBulk d + uptoBulkAll r
def uptoBulkEntries {H : Type} : List (Lit × DataW H) → Nat
  | [] => 0
  | x :: r => uptoBulkEntry x + uptoBulkEntries r
def uptoBulkEntry {H : Type} : Lit × DataW H → Nat
  | (.string bytes, d) => bytes.length + uptoBulk d + 1
  | (_, d) => uptoBulk d + 1
 end
def uptoSmall : (H : Type) → List (DataW H) → Bool := fun _ ds => decide (uptoBulkAll ds ≤ 1048576)
def OpenSpec.upto (s : _root_.Go.ChangeSpec) : _root_.Go.OpenSpec := { _root_.Go.OpenSpec.ofChange s with cond := some uptoSmall }

/-- 'laws.FnNeedFor', WHERE WHAT IT READS IS OF BULK AT MOST 1048576: true; the input reads as it did. -/
def fnNeedForUptoRow : OpenClaim := { program := "ytlpmeljneogpiab", sum := "5d9b5d32908e09c377626dd62c7f990840273ae5eb27d81aaceb92cdd3f7b422", func := "loop.example/watershares/laws.FnNeedFor", spec := "fnNeedFor", apart := false, narrowed := true }
def FnNeedForUptoSaid : Prop := fnNeedForUptoRow.holds Try.pinned (OpenSpec.upto fnNeedForSpec)

/-- 'laws.FnNeedForNone', WHERE WHAT IT READS IS OF BULK AT MOST 1048576: true; the input reads as it did. -/
def fnNeedForNoneUptoRow : OpenClaim := { program := "ytlpmeljneogpiab", sum := "5d9b5d32908e09c377626dd62c7f990840273ae5eb27d81aaceb92cdd3f7b422", func := "loop.example/watershares/laws.FnNeedForNone", spec := "fnNeedForNone", apart := false, narrowed := true }
def FnNeedForNoneUptoSaid : Prop := fnNeedForNoneUptoRow.holds Try.pinned (OpenSpec.upto fnNeedForNoneSpec)

/-- 'laws.FnSetGate', WHERE WHAT IT READS IS OF BULK AT MOST 1048576: true; the input reads as it did. -/
def fnSetGateUptoRow : OpenClaim := { program := "ytlpmeljneogpiab", sum := "5d9b5d32908e09c377626dd62c7f990840273ae5eb27d81aaceb92cdd3f7b422", func := "loop.example/watershares/laws.FnSetGate", spec := "fnSetGate", apart := false, narrowed := true }
def FnSetGateUptoSaid : Prop := fnSetGateUptoRow.holds Try.pinned (OpenSpec.upto fnSetGateSpec)

/-- 'laws.FnSetGateOthers', WHERE WHAT IT READS IS OF BULK AT MOST 1048576: true; the input reads as it did. -/
def fnSetGateOthersUptoRow : OpenClaim := { program := "ytlpmeljneogpiab", sum := "5d9b5d32908e09c377626dd62c7f990840273ae5eb27d81aaceb92cdd3f7b422", func := "loop.example/watershares/laws.FnSetGateOthers", spec := "fnSetGateOthers", apart := false, narrowed := true }
def FnSetGateOthersUptoSaid : Prop := fnSetGateOthersUptoRow.holds Try.pinned (OpenSpec.upto fnSetGateOthersSpec)

/-- 'laws.FnArriveAt', WHERE WHAT IT READS IS OF BULK AT MOST 1048576: true; the input reads as it did. -/
def fnArriveAtUptoRow : OpenClaim := { program := "ytlpmeljneogpiab", sum := "5d9b5d32908e09c377626dd62c7f990840273ae5eb27d81aaceb92cdd3f7b422", func := "loop.example/watershares/laws.FnArriveAt", spec := "fnArriveAt", apart := false, narrowed := true }
def FnArriveAtUptoSaid : Prop := fnArriveAtUptoRow.holds Try.pinned (OpenSpec.upto fnArriveAtSpec)

/-- 'laws.FnArriveAtSum', WHERE WHAT IT READS IS OF BULK AT MOST 1048576: true; the input reads as it did. -/
def fnArriveAtSumUptoRow : OpenClaim := { program := "ytlpmeljneogpiab", sum := "5d9b5d32908e09c377626dd62c7f990840273ae5eb27d81aaceb92cdd3f7b422", func := "loop.example/watershares/laws.FnArriveAtSum", spec := "fnArriveAtSum", apart := false, narrowed := true }
def FnArriveAtSumUptoSaid : Prop := fnArriveAtSumUptoRow.holds Try.pinned (OpenSpec.upto fnArriveAtSumSpec)

/-- 'laws.FnSplitByRestNear', WHERE WHAT IT READS IS OF BULK AT MOST 1048576: true; the input reads as it did. -/
def fnSplitByRestNearUptoRow : OpenClaim := { program := "ytlpmeljneogpiab", sum := "5d9b5d32908e09c377626dd62c7f990840273ae5eb27d81aaceb92cdd3f7b422", func := "loop.example/watershares/laws.FnSplitByRestNear", spec := "fnSplitByRestNear", apart := false, narrowed := true }
def FnSplitByRestNearUptoSaid : Prop := fnSplitByRestNearUptoRow.holds Try.pinned (OpenSpec.upto fnSplitByRestNearSpec)

/-- 'laws.FnSplitByMiddle', WHERE WHAT IT READS IS OF BULK AT MOST 1048576: true; the input reads as it did. -/
def fnSplitByMiddleUptoRow : OpenClaim := { program := "ytlpmeljneogpiab", sum := "5d9b5d32908e09c377626dd62c7f990840273ae5eb27d81aaceb92cdd3f7b422", func := "loop.example/watershares/laws.FnSplitByMiddle", spec := "fnSplitByMiddle", apart := false, narrowed := true }
def FnSplitByMiddleUptoSaid : Prop := fnSplitByMiddleUptoRow.holds Try.pinned (OpenSpec.upto fnSplitByMiddleSpec)

/-- 'laws.FnSplitByMiddleMore', WHERE WHAT IT READS IS OF BULK AT MOST 1048576: true; the input reads as it did. -/
def fnSplitByMiddleMoreUptoRow : OpenClaim := { program := "ytlpmeljneogpiab", sum := "5d9b5d32908e09c377626dd62c7f990840273ae5eb27d81aaceb92cdd3f7b422", func := "loop.example/watershares/laws.FnSplitByMiddleMore", spec := "fnSplitByMiddleMore", apart := false, narrowed := true }
def FnSplitByMiddleMoreUptoSaid : Prop := fnSplitByMiddleMoreUptoRow.holds Try.pinned (OpenSpec.upto fnSplitByMiddleMoreSpec)

end Rows
end Go.Proofs.Ytlpmeljneogpiab
