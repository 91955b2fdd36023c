/-
  No cell of these rows narrows 'for every input' (looked for: loops, veiled, ifaces, maps, wideKeys, modest, calm, conditions, laid).
  DERIVED. THE GIVEN ROWS OF THIS SEAT. 3 by the template 'for every input the law returns true; each argument reads behind the call as it read before'; 0 by the template 'total and deterministic' (their statements: YtdlbjmhjaljlfabTotals.lean).
  GIVEN WITH THE SEED: the statements are not yours to turn. If you find one false, say at which input.
  Laid BY PROGRAM, IN A SANDBOX (cutbox-rows.mjs): the forced cells as the released guide's own fill.sh prints them over the translation 4bf3eeb28dc88781… (all of the seat's roots in one cut). By AI agents, Wed Nov 11 2026. No macro, syntax, notation, axiom, sorry.
-/
import Derived.Test.YtdlbjmhjaljlfabChecked
import GoSem.Claim
import GoSem.ClaimJoined
import GoSem.ClaimMapViews
import Derived.JoinedTies
import Derived.KernelRfl
namespace Go.Proofs.Ytdlbjmhjaljlfab
/- THE CELL 'sum', in the pinned program and in every row, IS THE sha256 OF THE DUMP (.gsa) THAT YtdlbjmhjaljlfabProg.lean LOADS. Nothing in Lean hashes anything: it is a label: what it is worth is what the hold of that sum in a sandbox is worth. -/
noncomputable def Try.pinned : Pinned := { name := "ytdlbjmhjaljlfab", sum := "4bf3eeb28dc88781509a09523022e382d705756cd0138ce412309f762b9e9099", checked := Try.checked }
namespace Rows
def none {H : Type} : Left H := { results := [], args := [] }

/-- 'laws.FnRunDeedsText': WHATEVER THE INPUT: true; the input reads as it did. -/
def fnRunDeedsTextSpec : ChangeSpec := { name := "fnRunDeedsText", fn := fun _ => fun
  | [d] => { results := [.lit (.bool true)], args := [d] }
  | _ => none }
def fnRunDeedsTextRow : OpenClaim := { program := "ytdlbjmhjaljlfab", sum := "4bf3eeb28dc88781509a09523022e382d705756cd0138ce412309f762b9e9099", func := "loop.example/watershares/laws.FnRunDeedsText", spec := "fnRunDeedsText", apart := false }
def FnRunDeedsTextSaid : Prop := fnRunDeedsTextRow.holds Try.pinned (OpenSpec.ofChange fnRunDeedsTextSpec)

/-- ITS FALSE NEIGHBOUR: 'it returns false'. Refute it at one input. -/
def fnRunDeedsTextWrong : ChangeSpec := { name := "fnRunDeedsText", fn := fun _ => fun
  | [d] => { results := [.lit (.bool false)], args := [d] }
  | _ => none }
def FnRunDeedsTextWrongFalsely : Prop := fnRunDeedsTextRow.holds Try.pinned (OpenSpec.ofChange fnRunDeedsTextWrong)

/-- 'laws.FnTradeTurnsStable': WHATEVER THE INPUT: true; the input reads as it did. -/
def fnTradeTurnsStableSpec : ChangeSpec := { name := "fnTradeTurnsStable", fn := fun _ => fun
  | [d] => { results := [.lit (.bool true)], args := [d] }
  | _ => none }
def fnTradeTurnsStableRow : OpenClaim := { program := "ytdlbjmhjaljlfab", sum := "4bf3eeb28dc88781509a09523022e382d705756cd0138ce412309f762b9e9099", func := "loop.example/watershares/laws.FnTradeTurnsStable", spec := "fnTradeTurnsStable", apart := false }
def FnTradeTurnsStableSaid : Prop := fnTradeTurnsStableRow.holds Try.pinned (OpenSpec.ofChange fnTradeTurnsStableSpec)

/-- ITS FALSE NEIGHBOUR: 'it returns false'. Refute it at one input. -/
def fnTradeTurnsStableWrong : ChangeSpec := { name := "fnTradeTurnsStable", fn := fun _ => fun
  | [d] => { results := [.lit (.bool false)], args := [d] }
  | _ => none }
def FnTradeTurnsStableWrongFalsely : Prop := fnTradeTurnsStableRow.holds Try.pinned (OpenSpec.ofChange fnTradeTurnsStableWrong)

/-- 'laws.FnTradeTurnsTruth': WHATEVER THE INPUT: true; the input reads as it did. -/
def fnTradeTurnsTruthSpec : ChangeSpec := { name := "fnTradeTurnsTruth", fn := fun _ => fun
  | [d] => { results := [.lit (.bool true)], args := [d] }
  | _ => none }
def fnTradeTurnsTruthRow : OpenClaim := { program := "ytdlbjmhjaljlfab", sum := "4bf3eeb28dc88781509a09523022e382d705756cd0138ce412309f762b9e9099", func := "loop.example/watershares/laws.FnTradeTurnsTruth", spec := "fnTradeTurnsTruth", apart := false }
def FnTradeTurnsTruthSaid : Prop := fnTradeTurnsTruthRow.holds Try.pinned (OpenSpec.ofChange fnTradeTurnsTruthSpec)

/-- ITS FALSE NEIGHBOUR: 'it returns false'. Refute it at one input. -/
def fnTradeTurnsTruthWrong : ChangeSpec := { name := "fnTradeTurnsTruth", fn := fun _ => fun
  | [d] => { results := [.lit (.bool false)], args := [d] }
  | _ => none }
def FnTradeTurnsTruthWrongFalsely : Prop := fnTradeTurnsTruthRow.holds Try.pinned (OpenSpec.ofChange fnTradeTurnsTruthWrong)

/- THE SECOND FORM. 'bulk': how many values and letters a reading holds, each counted each time it is reached (what is shared counts as often as it is met; a slice's spare places count too). A statement '..UptoSaid' is the law's where the arguments, and the package variables that the reading takes, are together of bulk at most 1048576: NARROWER than '..Said'. Prove '..Said' where nothing that the law and all that it calls make is longer than what came in: it says more and counts as full. Else prove '..UptoSaid'. A law counts once. -/
mutual
def uptoBulk {H : Type} : DataW H → Nat
  | .lit (.string bytes) => bytes.length + 1
  | .lit _ => 1
  | .nil => 1
  | .ptr d => uptoBulk d + 1
  | .slice elems spare => uptoBulkAll elems + uptoBulkAll spare + 1
  | .agg parts => uptoBulkAll parts + 1
  | .iface _ d => uptoBulk d + 1
  | .map entries => uptoBulkEntries entries + 1
  | .held _ => 1
def uptoBulkAll {H : Type} : List (DataW H) → Nat
  | [] => 0
  | d :: r => uptoBulk d + uptoBulkAll r
def uptoBulkEntries {H : Type} : List (Lit × DataW H) → Nat
  | [] => 0
  | x :: r => uptoBulkEntry x + uptoBulkEntries r
def uptoBulkEntry {H : Type} : Lit × DataW H → Nat
  | (.string bytes, d) => bytes.length + uptoBulk d + 1
  | (_, d) => uptoBulk d + 1
 end
def uptoSmall : (H : Type) → List (DataW H) → Bool := fun _ ds => decide (uptoBulkAll ds ≤ 1048576)
def OpenSpec.upto (s : _root_.Go.ChangeSpec) : _root_.Go.OpenSpec := { _root_.Go.OpenSpec.ofChange s with cond := some uptoSmall }

/-- 'laws.FnRunDeedsText', WHERE WHAT IT READS IS OF BULK AT MOST 1048576: true; the input reads as it did. -/
def fnRunDeedsTextUptoRow : OpenClaim := { program := "ytdlbjmhjaljlfab", sum := "4bf3eeb28dc88781509a09523022e382d705756cd0138ce412309f762b9e9099", func := "loop.example/watershares/laws.FnRunDeedsText", spec := "fnRunDeedsText", apart := false, narrowed := true }
def FnRunDeedsTextUptoSaid : Prop := fnRunDeedsTextUptoRow.holds Try.pinned (OpenSpec.upto fnRunDeedsTextSpec)

/-- 'laws.FnTradeTurnsStable', WHERE WHAT IT READS IS OF BULK AT MOST 1048576: true; the input reads as it did. -/
def fnTradeTurnsStableUptoRow : OpenClaim := { program := "ytdlbjmhjaljlfab", sum := "4bf3eeb28dc88781509a09523022e382d705756cd0138ce412309f762b9e9099", func := "loop.example/watershares/laws.FnTradeTurnsStable", spec := "fnTradeTurnsStable", apart := false, narrowed := true }
def FnTradeTurnsStableUptoSaid : Prop := fnTradeTurnsStableUptoRow.holds Try.pinned (OpenSpec.upto fnTradeTurnsStableSpec)

/-- 'laws.FnTradeTurnsTruth', WHERE WHAT IT READS IS OF BULK AT MOST 1048576: true; the input reads as it did. -/
def fnTradeTurnsTruthUptoRow : OpenClaim := { program := "ytdlbjmhjaljlfab", sum := "4bf3eeb28dc88781509a09523022e382d705756cd0138ce412309f762b9e9099", func := "loop.example/watershares/laws.FnTradeTurnsTruth", spec := "fnTradeTurnsTruth", apart := false, narrowed := true }
def FnTradeTurnsTruthUptoSaid : Prop := fnTradeTurnsTruthUptoRow.holds Try.pinned (OpenSpec.upto fnTradeTurnsTruthSpec)

end Rows
end Go.Proofs.Ytdlbjmhjaljlfab
