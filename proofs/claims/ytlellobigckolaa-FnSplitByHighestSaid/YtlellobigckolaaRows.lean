/-
  No cell of these rows narrows 'for every input' (looked for: loops, veiled, ifaces, maps, wideKeys, modest, calm, conditions, laid).
  DERIVED. THE GIVEN ROWS OF THIS SEAT. 14 by the template 'for every input the law returns true; each argument reads behind the call as it read before'; 0 by the template 'total and deterministic' (their statements: YtlellobigckolaaTotals.lean).
  GIVEN WITH THE SEED: the statements are not yours to turn. If you find one false, say at which input.
  Laid BY PROGRAM, IN A SANDBOX (cutbox-rows.mjs): the forced cells as the released guide's own fill.sh prints them over the translation 8583eaf753ddd490… (all of the seat's roots in one cut). By AI agents, Wed Nov 11 2026. No macro, syntax, notation, axiom, sorry.
-/
import Derived.Test.YtlellobigckolaaChecked
import GoSem.Claim
import GoSem.ClaimJoined
import GoSem.ClaimMapViews
import Derived.JoinedTies
import Derived.KernelRfl
namespace Go.Proofs.Ytlellobigckolaa
/- THE CELL 'sum', in the pinned program and in every row, IS THE sha256 OF THE DUMP (.gsa) THAT YtlellobigckolaaProg.lean LOADS. Nothing in Lean hashes anything: it is a label: what it is worth is what the hold of that sum in a sandbox is worth. -/
noncomputable def Try.pinned : Pinned := { name := "ytlellobigckolaa", sum := "8583eaf753ddd490a7a34b20a8a1a0eecd6ef334920155cab174a4ffe9db5184", checked := Try.checked }
namespace Rows
def none {H : Type} : Left H := { results := [], args := [] }

/-- 'laws.FnExactValidWeights': WHATEVER THE INPUT: true; the input reads as it did. -/
def fnExactValidWeightsSpec : ChangeSpec := { name := "fnExactValidWeights", fn := fun _ => fun
  | [d] => { results := [.lit (.bool true)], args := [d] }
  | _ => none }
def fnExactValidWeightsRow : OpenClaim := { program := "ytlellobigckolaa", sum := "8583eaf753ddd490a7a34b20a8a1a0eecd6ef334920155cab174a4ffe9db5184", func := "loop.example/watershares/laws.FnExactValidWeights", spec := "fnExactValidWeights", apart := false }
def FnExactValidWeightsSaid : Prop := fnExactValidWeightsRow.holds Try.pinned (OpenSpec.ofChange fnExactValidWeightsSpec)

/-- ITS FALSE NEIGHBOUR: 'it returns false'. Refute it at one input. -/
def fnExactValidWeightsWrong : ChangeSpec := { name := "fnExactValidWeights", fn := fun _ => fun
  | [d] => { results := [.lit (.bool false)], args := [d] }
  | _ => none }
def FnExactValidWeightsWrongFalsely : Prop := fnExactValidWeightsRow.holds Try.pinned (OpenSpec.ofChange fnExactValidWeightsWrong)

/-- 'laws.FnExactQuotasOf': WHATEVER THE INPUT: true; the input reads as it did. -/
def fnExactQuotasOfSpec : ChangeSpec := { name := "fnExactQuotasOf", fn := fun _ => fun
  | [d1, d2] => { results := [.lit (.bool true)], args := [d1, d2] }
  | _ => none }
def fnExactQuotasOfRow : OpenClaim := { program := "ytlellobigckolaa", sum := "8583eaf753ddd490a7a34b20a8a1a0eecd6ef334920155cab174a4ffe9db5184", func := "loop.example/watershares/laws.FnExactQuotasOf", spec := "fnExactQuotasOf", apart := false }
def FnExactQuotasOfSaid : Prop := fnExactQuotasOfRow.holds Try.pinned (OpenSpec.ofChange fnExactQuotasOfSpec)

/-- ITS FALSE NEIGHBOUR: 'it returns false'. Refute it at one input. -/
def fnExactQuotasOfWrong : ChangeSpec := { name := "fnExactQuotasOf", fn := fun _ => fun
  | [d1, d2] => { results := [.lit (.bool false)], args := [d1, d2] }
  | _ => none }
def FnExactQuotasOfWrongFalsely : Prop := fnExactQuotasOfRow.holds Try.pinned (OpenSpec.ofChange fnExactQuotasOfWrong)

/-- 'laws.FnExactSplitByRest': WHATEVER THE INPUT: true; the input reads as it did. -/
def fnExactSplitByRestSpec : ChangeSpec := { name := "fnExactSplitByRest", fn := fun _ => fun
  | [d1, d2] => { results := [.lit (.bool true)], args := [d1, d2] }
  | _ => none }
def fnExactSplitByRestRow : OpenClaim := { program := "ytlellobigckolaa", sum := "8583eaf753ddd490a7a34b20a8a1a0eecd6ef334920155cab174a4ffe9db5184", func := "loop.example/watershares/laws.FnExactSplitByRest", spec := "fnExactSplitByRest", apart := false }
def FnExactSplitByRestSaid : Prop := fnExactSplitByRestRow.holds Try.pinned (OpenSpec.ofChange fnExactSplitByRestSpec)

/-- ITS FALSE NEIGHBOUR: 'it returns false'. Refute it at one input. -/
def fnExactSplitByRestWrong : ChangeSpec := { name := "fnExactSplitByRest", fn := fun _ => fun
  | [d1, d2] => { results := [.lit (.bool false)], args := [d1, d2] }
  | _ => none }
def FnExactSplitByRestWrongFalsely : Prop := fnExactSplitByRestRow.holds Try.pinned (OpenSpec.ofChange fnExactSplitByRestWrong)

/-- 'laws.FnExactSplitByHighest': WHATEVER THE INPUT: true; the input reads as it did. -/
def fnExactSplitByHighestSpec : ChangeSpec := { name := "fnExactSplitByHighest", fn := fun _ => fun
  | [d1, d2] => { results := [.lit (.bool true)], args := [d1, d2] }
  | _ => none }
def fnExactSplitByHighestRow : OpenClaim := { program := "ytlellobigckolaa", sum := "8583eaf753ddd490a7a34b20a8a1a0eecd6ef334920155cab174a4ffe9db5184", func := "loop.example/watershares/laws.FnExactSplitByHighest", spec := "fnExactSplitByHighest", apart := false }
def FnExactSplitByHighestSaid : Prop := fnExactSplitByHighestRow.holds Try.pinned (OpenSpec.ofChange fnExactSplitByHighestSpec)

/-- ITS FALSE NEIGHBOUR: 'it returns false'. Refute it at one input. -/
def fnExactSplitByHighestWrong : ChangeSpec := { name := "fnExactSplitByHighest", fn := fun _ => fun
  | [d1, d2] => { results := [.lit (.bool false)], args := [d1, d2] }
  | _ => none }
def FnExactSplitByHighestWrongFalsely : Prop := fnExactSplitByHighestRow.holds Try.pinned (OpenSpec.ofChange fnExactSplitByHighestWrong)

/-- 'laws.FnExactSplitByMiddle': WHATEVER THE INPUT: true; the input reads as it did. -/
def fnExactSplitByMiddleSpec : ChangeSpec := { name := "fnExactSplitByMiddle", fn := fun _ => fun
  | [d1, d2] => { results := [.lit (.bool true)], args := [d1, d2] }
  | _ => none }
def fnExactSplitByMiddleRow : OpenClaim := { program := "ytlellobigckolaa", sum := "8583eaf753ddd490a7a34b20a8a1a0eecd6ef334920155cab174a4ffe9db5184", func := "loop.example/watershares/laws.FnExactSplitByMiddle", spec := "fnExactSplitByMiddle", apart := false }
def FnExactSplitByMiddleSaid : Prop := fnExactSplitByMiddleRow.holds Try.pinned (OpenSpec.ofChange fnExactSplitByMiddleSpec)

/-- ITS FALSE NEIGHBOUR: 'it returns false'. Refute it at one input. -/
def fnExactSplitByMiddleWrong : ChangeSpec := { name := "fnExactSplitByMiddle", fn := fun _ => fun
  | [d1, d2] => { results := [.lit (.bool false)], args := [d1, d2] }
  | _ => none }
def FnExactSplitByMiddleWrongFalsely : Prop := fnExactSplitByMiddleRow.holds Try.pinned (OpenSpec.ofChange fnExactSplitByMiddleWrong)

/-- 'laws.FnExactDistanceOf': WHATEVER THE INPUT: true; the input reads as it did. -/
def fnExactDistanceOfSpec : ChangeSpec := { name := "fnExactDistanceOf", fn := fun _ => fun
  | [d1, d2] => { results := [.lit (.bool true)], args := [d1, d2] }
  | _ => none }
def fnExactDistanceOfRow : OpenClaim := { program := "ytlellobigckolaa", sum := "8583eaf753ddd490a7a34b20a8a1a0eecd6ef334920155cab174a4ffe9db5184", func := "loop.example/watershares/laws.FnExactDistanceOf", spec := "fnExactDistanceOf", apart := false }
def FnExactDistanceOfSaid : Prop := fnExactDistanceOfRow.holds Try.pinned (OpenSpec.ofChange fnExactDistanceOfSpec)

/-- ITS FALSE NEIGHBOUR: 'it returns false'. Refute it at one input. -/
def fnExactDistanceOfWrong : ChangeSpec := { name := "fnExactDistanceOf", fn := fun _ => fun
  | [d1, d2] => { results := [.lit (.bool false)], args := [d1, d2] }
  | _ => none }
def FnExactDistanceOfWrongFalsely : Prop := fnExactDistanceOfRow.holds Try.pinned (OpenSpec.ofChange fnExactDistanceOfWrong)

/-- 'laws.FnQuotasOf': WHATEVER THE INPUT: true; the input reads as it did. -/
def fnQuotasOfSpec : ChangeSpec := { name := "fnQuotasOf", fn := fun _ => fun
  | [d] => { results := [.lit (.bool true)], args := [d] }
  | _ => none }
def fnQuotasOfRow : OpenClaim := { program := "ytlellobigckolaa", sum := "8583eaf753ddd490a7a34b20a8a1a0eecd6ef334920155cab174a4ffe9db5184", func := "loop.example/watershares/laws.FnQuotasOf", spec := "fnQuotasOf", apart := false }
def FnQuotasOfSaid : Prop := fnQuotasOfRow.holds Try.pinned (OpenSpec.ofChange fnQuotasOfSpec)

/-- ITS FALSE NEIGHBOUR: 'it returns false'. Refute it at one input. -/
def fnQuotasOfWrong : ChangeSpec := { name := "fnQuotasOf", fn := fun _ => fun
  | [d] => { results := [.lit (.bool false)], args := [d] }
  | _ => none }
def FnQuotasOfWrongFalsely : Prop := fnQuotasOfRow.holds Try.pinned (OpenSpec.ofChange fnQuotasOfWrong)

/-- 'laws.FnSplitByRest': WHATEVER THE INPUT: true; the input reads as it did. -/
def fnSplitByRestSpec : ChangeSpec := { name := "fnSplitByRest", fn := fun _ => fun
  | [d] => { results := [.lit (.bool true)], args := [d] }
  | _ => none }
def fnSplitByRestRow : OpenClaim := { program := "ytlellobigckolaa", sum := "8583eaf753ddd490a7a34b20a8a1a0eecd6ef334920155cab174a4ffe9db5184", func := "loop.example/watershares/laws.FnSplitByRest", spec := "fnSplitByRest", apart := false }
def FnSplitByRestSaid : Prop := fnSplitByRestRow.holds Try.pinned (OpenSpec.ofChange fnSplitByRestSpec)

/-- ITS FALSE NEIGHBOUR: 'it returns false'. Refute it at one input. -/
def fnSplitByRestWrong : ChangeSpec := { name := "fnSplitByRest", fn := fun _ => fun
  | [d] => { results := [.lit (.bool false)], args := [d] }
  | _ => none }
def FnSplitByRestWrongFalsely : Prop := fnSplitByRestRow.holds Try.pinned (OpenSpec.ofChange fnSplitByRestWrong)

/-- 'laws.FnSplitByRestNear': WHATEVER THE INPUT: true; the input reads as it did. -/
def fnSplitByRestNearSpec : ChangeSpec := { name := "fnSplitByRestNear", fn := fun _ => fun
  | [d] => { results := [.lit (.bool true)], args := [d] }
  | _ => none }
def fnSplitByRestNearRow : OpenClaim := { program := "ytlellobigckolaa", sum := "8583eaf753ddd490a7a34b20a8a1a0eecd6ef334920155cab174a4ffe9db5184", func := "loop.example/watershares/laws.FnSplitByRestNear", spec := "fnSplitByRestNear", apart := false }
def FnSplitByRestNearSaid : Prop := fnSplitByRestNearRow.holds Try.pinned (OpenSpec.ofChange fnSplitByRestNearSpec)

/-- ITS FALSE NEIGHBOUR: 'it returns false'. Refute it at one input. -/
def fnSplitByRestNearWrong : ChangeSpec := { name := "fnSplitByRestNear", fn := fun _ => fun
  | [d] => { results := [.lit (.bool false)], args := [d] }
  | _ => none }
def FnSplitByRestNearWrongFalsely : Prop := fnSplitByRestNearRow.holds Try.pinned (OpenSpec.ofChange fnSplitByRestNearWrong)

/-- 'laws.FnSplitByHighest': WHATEVER THE INPUT: true; the input reads as it did. -/
def fnSplitByHighestSpec : ChangeSpec := { name := "fnSplitByHighest", fn := fun _ => fun
  | [d] => { results := [.lit (.bool true)], args := [d] }
  | _ => none }
def fnSplitByHighestRow : OpenClaim := { program := "ytlellobigckolaa", sum := "8583eaf753ddd490a7a34b20a8a1a0eecd6ef334920155cab174a4ffe9db5184", func := "loop.example/watershares/laws.FnSplitByHighest", spec := "fnSplitByHighest", apart := false }
def FnSplitByHighestSaid : Prop := fnSplitByHighestRow.holds Try.pinned (OpenSpec.ofChange fnSplitByHighestSpec)

/-- ITS FALSE NEIGHBOUR: 'it returns false'. Refute it at one input. -/
def fnSplitByHighestWrong : ChangeSpec := { name := "fnSplitByHighest", fn := fun _ => fun
  | [d] => { results := [.lit (.bool false)], args := [d] }
  | _ => none }
def FnSplitByHighestWrongFalsely : Prop := fnSplitByHighestRow.holds Try.pinned (OpenSpec.ofChange fnSplitByHighestWrong)

/-- 'laws.FnSplitByHighestMore': WHATEVER THE INPUT: true; the input reads as it did. -/
def fnSplitByHighestMoreSpec : ChangeSpec := { name := "fnSplitByHighestMore", fn := fun _ => fun
  | [d] => { results := [.lit (.bool true)], args := [d] }
  | _ => none }
def fnSplitByHighestMoreRow : OpenClaim := { program := "ytlellobigckolaa", sum := "8583eaf753ddd490a7a34b20a8a1a0eecd6ef334920155cab174a4ffe9db5184", func := "loop.example/watershares/laws.FnSplitByHighestMore", spec := "fnSplitByHighestMore", apart := false }
def FnSplitByHighestMoreSaid : Prop := fnSplitByHighestMoreRow.holds Try.pinned (OpenSpec.ofChange fnSplitByHighestMoreSpec)

/-- ITS FALSE NEIGHBOUR: 'it returns false'. Refute it at one input. -/
def fnSplitByHighestMoreWrong : ChangeSpec := { name := "fnSplitByHighestMore", fn := fun _ => fun
  | [d] => { results := [.lit (.bool false)], args := [d] }
  | _ => none }
def FnSplitByHighestMoreWrongFalsely : Prop := fnSplitByHighestMoreRow.holds Try.pinned (OpenSpec.ofChange fnSplitByHighestMoreWrong)

/-- 'laws.FnSplitByMiddle': WHATEVER THE INPUT: true; the input reads as it did. -/
def fnSplitByMiddleSpec : ChangeSpec := { name := "fnSplitByMiddle", fn := fun _ => fun
  | [d] => { results := [.lit (.bool true)], args := [d] }
  | _ => none }
def fnSplitByMiddleRow : OpenClaim := { program := "ytlellobigckolaa", sum := "8583eaf753ddd490a7a34b20a8a1a0eecd6ef334920155cab174a4ffe9db5184", func := "loop.example/watershares/laws.FnSplitByMiddle", spec := "fnSplitByMiddle", apart := false }
def FnSplitByMiddleSaid : Prop := fnSplitByMiddleRow.holds Try.pinned (OpenSpec.ofChange fnSplitByMiddleSpec)

/-- ITS FALSE NEIGHBOUR: 'it returns false'. Refute it at one input. -/
def fnSplitByMiddleWrong : ChangeSpec := { name := "fnSplitByMiddle", fn := fun _ => fun
  | [d] => { results := [.lit (.bool false)], args := [d] }
  | _ => none }
def FnSplitByMiddleWrongFalsely : Prop := fnSplitByMiddleRow.holds Try.pinned (OpenSpec.ofChange fnSplitByMiddleWrong)

/-- 'laws.FnSplitByMiddleMore': WHATEVER THE INPUT: true; the input reads as it did. -/
def fnSplitByMiddleMoreSpec : ChangeSpec := { name := "fnSplitByMiddleMore", fn := fun _ => fun
  | [d] => { results := [.lit (.bool true)], args := [d] }
  | _ => none }
def fnSplitByMiddleMoreRow : OpenClaim := { program := "ytlellobigckolaa", sum := "8583eaf753ddd490a7a34b20a8a1a0eecd6ef334920155cab174a4ffe9db5184", func := "loop.example/watershares/laws.FnSplitByMiddleMore", spec := "fnSplitByMiddleMore", apart := false }
def FnSplitByMiddleMoreSaid : Prop := fnSplitByMiddleMoreRow.holds Try.pinned (OpenSpec.ofChange fnSplitByMiddleMoreSpec)

/-- ITS FALSE NEIGHBOUR: 'it returns false'. Refute it at one input. -/
def fnSplitByMiddleMoreWrong : ChangeSpec := { name := "fnSplitByMiddleMore", fn := fun _ => fun
  | [d] => { results := [.lit (.bool false)], args := [d] }
  | _ => none }
def FnSplitByMiddleMoreWrongFalsely : Prop := fnSplitByMiddleMoreRow.holds Try.pinned (OpenSpec.ofChange fnSplitByMiddleMoreWrong)

/-- 'laws.FnDistanceOf': WHATEVER THE INPUT: true; the input reads as it did. -/
def fnDistanceOfSpec : ChangeSpec := { name := "fnDistanceOf", fn := fun _ => fun
  | [d] => { results := [.lit (.bool true)], args := [d] }
  | _ => none }
def fnDistanceOfRow : OpenClaim := { program := "ytlellobigckolaa", sum := "8583eaf753ddd490a7a34b20a8a1a0eecd6ef334920155cab174a4ffe9db5184", func := "loop.example/watershares/laws.FnDistanceOf", spec := "fnDistanceOf", apart := false }
def FnDistanceOfSaid : Prop := fnDistanceOfRow.holds Try.pinned (OpenSpec.ofChange fnDistanceOfSpec)

/-- ITS FALSE NEIGHBOUR: 'it returns false'. Refute it at one input. -/
def fnDistanceOfWrong : ChangeSpec := { name := "fnDistanceOf", fn := fun _ => fun
  | [d] => { results := [.lit (.bool false)], args := [d] }
  | _ => none }
def FnDistanceOfWrongFalsely : Prop := fnDistanceOfRow.holds Try.pinned (OpenSpec.ofChange fnDistanceOfWrong)

/- THE SECOND FORM. 'bulk': how many values and letters a reading holds, each counted each time it is reached (what is shared counts as often as it is met; a slice's spare places count too). A statement '..UptoSaid' is the law's where the arguments, and the package variables that the reading takes, are together of bulk at most 1048576: NARROWER than '..Said'. Prove '..Said' where nothing that the law and all that it calls make is longer than what came in: it says more and counts as full. Else prove '..UptoSaid'. A law counts once. -/
mutual
def uptoBulk {H : Type} : DataW H → Nat
  | .lit (.string bytes) => bytes.length + 1
  | .lit _ => 1
  | .nil => 1
  | .ptr d => uptoBulk d + 1
  | .slice elems spare => uptoBulkAll elems + uptoBulkAll spare + 1
  | .agg parts => uptoBulkAll parts + 1
  | .iface _ d => uptoBulk d + 1
  | .map entries => uptoBulkEntries entries + 1
  | .held _ => 1
def uptoBulkAll {H : Type} : List (DataW H) → Nat
  | [] => 0
  | d :: r => uptoBulk d + uptoBulkAll r
def uptoBulkEntries {H : Type} : List (Lit × DataW H) → Nat
  | [] => 0
  | x :: r => uptoBulkEntry x + uptoBulkEntries r
def uptoBulkEntry {H : Type} : Lit × DataW H → Nat
  | (.string bytes, d) => bytes.length + uptoBulk d + 1
  | (_, d) => uptoBulk d + 1
 end
def uptoSmall : (H : Type) → List (DataW H) → Bool := fun _ ds => decide (uptoBulkAll ds ≤ 1048576)
def OpenSpec.upto (s : _root_.Go.ChangeSpec) : _root_.Go.OpenSpec := { _root_.Go.OpenSpec.ofChange s with cond := some uptoSmall }

/-- 'laws.FnExactValidWeights', WHERE WHAT IT READS IS OF BULK AT MOST 1048576: true; the input reads as it did. -/
def fnExactValidWeightsUptoRow : OpenClaim := { program := "ytlellobigckolaa", sum := "8583eaf753ddd490a7a34b20a8a1a0eecd6ef334920155cab174a4ffe9db5184", func := "loop.example/watershares/laws.FnExactValidWeights", spec := "fnExactValidWeights", apart := false, narrowed := true }
def FnExactValidWeightsUptoSaid : Prop := fnExactValidWeightsUptoRow.holds Try.pinned (OpenSpec.upto fnExactValidWeightsSpec)

/-- 'laws.FnExactQuotasOf', WHERE WHAT IT READS IS OF BULK AT MOST 1048576: true; the input reads as it did. -/
def fnExactQuotasOfUptoRow : OpenClaim := { program := "ytlellobigckolaa", sum := "8583eaf753ddd490a7a34b20a8a1a0eecd6ef334920155cab174a4ffe9db5184", func := "loop.example/watershares/laws.FnExactQuotasOf", spec := "fnExactQuotasOf", apart := false, narrowed := true }
def FnExactQuotasOfUptoSaid : Prop := fnExactQuotasOfUptoRow.holds Try.pinned (OpenSpec.upto fnExactQuotasOfSpec)

/-- 'laws.FnExactSplitByRest', WHERE WHAT IT READS IS OF BULK AT MOST 1048576: true; the input reads as it did. -/
def fnExactSplitByRestUptoRow : OpenClaim := { program := "ytlellobigckolaa", sum := "8583eaf753ddd490a7a34b20a8a1a0eecd6ef334920155cab174a4ffe9db5184", func := "loop.example/watershares/laws.FnExactSplitByRest", spec := "fnExactSplitByRest", apart := false, narrowed := true }
def FnExactSplitByRestUptoSaid : Prop := fnExactSplitByRestUptoRow.holds Try.pinned (OpenSpec.upto fnExactSplitByRestSpec)

/-- 'laws.FnExactSplitByHighest', WHERE WHAT IT READS IS OF BULK AT MOST 1048576: true; the input reads as it did. -/
def fnExactSplitByHighestUptoRow : OpenClaim := { program := "ytlellobigckolaa", sum := "8583eaf753ddd490a7a34b20a8a1a0eecd6ef334920155cab174a4ffe9db5184", func := "loop.example/watershares/laws.FnExactSplitByHighest", spec := "fnExactSplitByHighest", apart := false, narrowed := true }
def FnExactSplitByHighestUptoSaid : Prop := fnExactSplitByHighestUptoRow.holds Try.pinned (OpenSpec.upto fnExactSplitByHighestSpec)

/-- 'laws.FnExactSplitByMiddle', WHERE WHAT IT READS IS OF BULK AT MOST 1048576: true; the input reads as it did. -/
def fnExactSplitByMiddleUptoRow : OpenClaim := { program := "ytlellobigckolaa", sum := "8583eaf753ddd490a7a34b20a8a1a0eecd6ef334920155cab174a4ffe9db5184", func := "loop.example/watershares/laws.FnExactSplitByMiddle", spec := "fnExactSplitByMiddle", apart := false, narrowed := true }
def FnExactSplitByMiddleUptoSaid : Prop := fnExactSplitByMiddleUptoRow.holds Try.pinned (OpenSpec.upto fnExactSplitByMiddleSpec)

/-- 'laws.FnExactDistanceOf', WHERE WHAT IT READS IS OF BULK AT MOST 1048576: true; the input reads as it did. -/
def fnExactDistanceOfUptoRow : OpenClaim := { program := "ytlellobigckolaa", sum := "8583eaf753ddd490a7a34b20a8a1a0eecd6ef334920155cab174a4ffe9db5184", func := "loop.example/watershares/laws.FnExactDistanceOf", spec := "fnExactDistanceOf", apart := false, narrowed := true }
def FnExactDistanceOfUptoSaid : Prop := fnExactDistanceOfUptoRow.holds Try.pinned (OpenSpec.upto fnExactDistanceOfSpec)

/-- 'laws.FnQuotasOf', WHERE WHAT IT READS IS OF BULK AT MOST 1048576: true; the input reads as it did. -/
def fnQuotasOfUptoRow : OpenClaim := { program := "ytlellobigckolaa", sum := "8583eaf753ddd490a7a34b20a8a1a0eecd6ef334920155cab174a4ffe9db5184", func := "loop.example/watershares/laws.FnQuotasOf", spec := "fnQuotasOf", apart := false, narrowed := true }
def FnQuotasOfUptoSaid : Prop := fnQuotasOfUptoRow.holds Try.pinned (OpenSpec.upto fnQuotasOfSpec)

/-- 'laws.FnSplitByRest', WHERE WHAT IT READS IS OF BULK AT MOST 1048576: true; the input reads as it did. -/
def fnSplitByRestUptoRow : OpenClaim := { program := "ytlellobigckolaa", sum := "8583eaf753ddd490a7a34b20a8a1a0eecd6ef334920155cab174a4ffe9db5184", func := "loop.example/watershares/laws.FnSplitByRest", spec := "fnSplitByRest", apart := false, narrowed := true }
def FnSplitByRestUptoSaid : Prop := fnSplitByRestUptoRow.holds Try.pinned (OpenSpec.upto fnSplitByRestSpec)

/-- 'laws.FnSplitByRestNear', WHERE WHAT IT READS IS OF BULK AT MOST 1048576: true; the input reads as it did. -/
def fnSplitByRestNearUptoRow : OpenClaim := { program := "ytlellobigckolaa", sum := "8583eaf753ddd490a7a34b20a8a1a0eecd6ef334920155cab174a4ffe9db5184", func := "loop.example/watershares/laws.FnSplitByRestNear", spec := "fnSplitByRestNear", apart := false, narrowed := true }
def FnSplitByRestNearUptoSaid : Prop := fnSplitByRestNearUptoRow.holds Try.pinned (OpenSpec.upto fnSplitByRestNearSpec)

/-- 'laws.FnSplitByHighest', WHERE WHAT IT READS IS OF BULK AT MOST 1048576: true; the input reads as it did. -/
def fnSplitByHighestUptoRow : OpenClaim := { program := "ytlellobigckolaa", sum := "8583eaf753ddd490a7a34b20a8a1a0eecd6ef334920155cab174a4ffe9db5184", func := "loop.example/watershares/laws.FnSplitByHighest", spec := "fnSplitByHighest", apart := false, narrowed := true }
def FnSplitByHighestUptoSaid : Prop := fnSplitByHighestUptoRow.holds Try.pinned (OpenSpec.upto fnSplitByHighestSpec)

/-- 'laws.FnSplitByHighestMore', WHERE WHAT IT READS IS OF BULK AT MOST 1048576: true; the input reads as it did. -/
def fnSplitByHighestMoreUptoRow : OpenClaim := { program := "ytlellobigckolaa", sum := "8583eaf753ddd490a7a34b20a8a1a0eecd6ef334920155cab174a4ffe9db5184", func := "loop.example/watershares/laws.FnSplitByHighestMore", spec := "fnSplitByHighestMore", apart := false, narrowed := true }
def FnSplitByHighestMoreUptoSaid : Prop := fnSplitByHighestMoreUptoRow.holds Try.pinned (OpenSpec.upto fnSplitByHighestMoreSpec)

/-- 'laws.FnSplitByMiddle', WHERE WHAT IT READS IS OF BULK AT MOST 1048576: true; the input reads as it did. -/
def fnSplitByMiddleUptoRow : OpenClaim := { program := "ytlellobigckolaa", sum := "8583eaf753ddd490a7a34b20a8a1a0eecd6ef334920155cab174a4ffe9db5184", func := "loop.example/watershares/laws.FnSplitByMiddle", spec := "fnSplitByMiddle", apart := false, narrowed := true }
def FnSplitByMiddleUptoSaid : Prop := fnSplitByMiddleUptoRow.holds Try.pinned (OpenSpec.upto fnSplitByMiddleSpec)

/-- 'laws.FnSplitByMiddleMore', WHERE WHAT IT READS IS OF BULK AT MOST 1048576: true; the input reads as it did. -/
def fnSplitByMiddleMoreUptoRow : OpenClaim := { program := "ytlellobigckolaa", sum := "8583eaf753ddd490a7a34b20a8a1a0eecd6ef334920155cab174a4ffe9db5184", func := "loop.example/watershares/laws.FnSplitByMiddleMore", spec := "fnSplitByMiddleMore", apart := false, narrowed := true }
def FnSplitByMiddleMoreUptoSaid : Prop := fnSplitByMiddleMoreUptoRow.holds Try.pinned (OpenSpec.upto fnSplitByMiddleMoreSpec)

/-- 'laws.FnDistanceOf', WHERE WHAT IT READS IS OF BULK AT MOST 1048576: true; the input reads as it did. -/
def fnDistanceOfUptoRow : OpenClaim := { program := "ytlellobigckolaa", sum := "8583eaf753ddd490a7a34b20a8a1a0eecd6ef334920155cab174a4ffe9db5184", func := "loop.example/watershares/laws.FnDistanceOf", spec := "fnDistanceOf", apart := false, narrowed := true }
def FnDistanceOfUptoSaid : Prop := fnDistanceOfUptoRow.holds Try.pinned (OpenSpec.upto fnDistanceOfSpec)

end Rows
end Go.Proofs.Ytlellobigckolaa
