/-
  No cell of these rows narrows 'for every input' (looked for: loops, veiled, ifaces, maps, wideKeys, modest, calm, conditions, laid).
  DERIVED. THE GIVEN ROWS OF THIS SEAT. 7 by the template 'for every input the law returns true; each argument reads behind the call as it read before'; 0 by the template 'total and deterministic' (their statements: YtihogilepflegabTotals.lean).
  GIVEN WITH THE SEED: the statements are not yours to turn. If you find one false, say at which input.
  Laid BY PROGRAM, IN A SANDBOX (cutbox-rows.mjs): the forced cells as the released guide's own fill.sh prints them over the translation 860c29f87c006d63… (all of the seat's roots in one cut). By AI agents, Wed Nov 11 2026. No macro, syntax, notation, axiom, sorry.
-/
import Derived.Test.YtihogilepflegabChecked
import GoSem.Claim
import GoSem.ClaimJoined
import GoSem.ClaimMapViews
import Derived.JoinedTies
import Derived.KernelRfl
namespace Go.Proofs.Ytihogilepflegab
/- THE CELL 'sum', in the pinned program and in every row, IS THE sha256 OF THE DUMP (.gsa) THAT YtihogilepflegabProg.lean LOADS. Nothing in Lean hashes anything: it is a label: what it is worth is what the hold of that sum in a sandbox is worth. -/
noncomputable def Try.pinned : Pinned := { name := "ytihogilepflegab", sum := "860c29f87c006d635c6fc3ec8fc89a01f1fc8d6cd81c1f21cf02236592ff5ff5", checked := Try.checked }
namespace Rows
def none {H : Type} : Left H := { results := [], args := [] }

/-- 'laws.FnValidFrac': WHATEVER THE INPUT: true; the input reads as it did. -/
def fnValidFracSpec : ChangeSpec := { name := "fnValidFrac", fn := fun _ => fun
  | [d] => { results := [.lit (.bool true)], args := [d] }
  | _ => none }
def fnValidFracRow : OpenClaim := { program := "ytihogilepflegab", sum := "860c29f87c006d635c6fc3ec8fc89a01f1fc8d6cd81c1f21cf02236592ff5ff5", func := "loop.example/watershares/laws.FnValidFrac", spec := "fnValidFrac", apart := false }
def FnValidFracSaid : Prop := fnValidFracRow.holds Try.pinned (OpenSpec.ofChange fnValidFracSpec)

/-- ITS FALSE NEIGHBOUR: 'it returns false'. Refute it at one input. -/
def fnValidFracWrong : ChangeSpec := { name := "fnValidFrac", fn := fun _ => fun
  | [d] => { results := [.lit (.bool false)], args := [d] }
  | _ => none }
def FnValidFracWrongFalsely : Prop := fnValidFracRow.holds Try.pinned (OpenSpec.ofChange fnValidFracWrong)

/-- 'laws.FnMakeFrac': WHATEVER THE INPUT: true; the input reads as it did. -/
def fnMakeFracSpec : ChangeSpec := { name := "fnMakeFrac", fn := fun _ => fun
  | [d] => { results := [.lit (.bool true)], args := [d] }
  | _ => none }
def fnMakeFracRow : OpenClaim := { program := "ytihogilepflegab", sum := "860c29f87c006d635c6fc3ec8fc89a01f1fc8d6cd81c1f21cf02236592ff5ff5", func := "loop.example/watershares/laws.FnMakeFrac", spec := "fnMakeFrac", apart := false }
def FnMakeFracSaid : Prop := fnMakeFracRow.holds Try.pinned (OpenSpec.ofChange fnMakeFracSpec)

/-- ITS FALSE NEIGHBOUR: 'it returns false'. Refute it at one input. -/
def fnMakeFracWrong : ChangeSpec := { name := "fnMakeFrac", fn := fun _ => fun
  | [d] => { results := [.lit (.bool false)], args := [d] }
  | _ => none }
def FnMakeFracWrongFalsely : Prop := fnMakeFracRow.holds Try.pinned (OpenSpec.ofChange fnMakeFracWrong)

/-- 'laws.FnAddFrac': WHATEVER THE INPUT: true; the input reads as it did. -/
def fnAddFracSpec : ChangeSpec := { name := "fnAddFrac", fn := fun _ => fun
  | [d] => { results := [.lit (.bool true)], args := [d] }
  | _ => none }
def fnAddFracRow : OpenClaim := { program := "ytihogilepflegab", sum := "860c29f87c006d635c6fc3ec8fc89a01f1fc8d6cd81c1f21cf02236592ff5ff5", func := "loop.example/watershares/laws.FnAddFrac", spec := "fnAddFrac", apart := false }
def FnAddFracSaid : Prop := fnAddFracRow.holds Try.pinned (OpenSpec.ofChange fnAddFracSpec)

/-- ITS FALSE NEIGHBOUR: 'it returns false'. Refute it at one input. -/
def fnAddFracWrong : ChangeSpec := { name := "fnAddFrac", fn := fun _ => fun
  | [d] => { results := [.lit (.bool false)], args := [d] }
  | _ => none }
def FnAddFracWrongFalsely : Prop := fnAddFracRow.holds Try.pinned (OpenSpec.ofChange fnAddFracWrong)

/-- 'laws.FnCompareFrac': WHATEVER THE INPUT: true; the input reads as it did. -/
def fnCompareFracSpec : ChangeSpec := { name := "fnCompareFrac", fn := fun _ => fun
  | [d] => { results := [.lit (.bool true)], args := [d] }
  | _ => none }
def fnCompareFracRow : OpenClaim := { program := "ytihogilepflegab", sum := "860c29f87c006d635c6fc3ec8fc89a01f1fc8d6cd81c1f21cf02236592ff5ff5", func := "loop.example/watershares/laws.FnCompareFrac", spec := "fnCompareFrac", apart := false }
def FnCompareFracSaid : Prop := fnCompareFracRow.holds Try.pinned (OpenSpec.ofChange fnCompareFracSpec)

/-- ITS FALSE NEIGHBOUR: 'it returns false'. Refute it at one input. -/
def fnCompareFracWrong : ChangeSpec := { name := "fnCompareFrac", fn := fun _ => fun
  | [d] => { results := [.lit (.bool false)], args := [d] }
  | _ => none }
def FnCompareFracWrongFalsely : Prop := fnCompareFracRow.holds Try.pinned (OpenSpec.ofChange fnCompareFracWrong)

/-- 'laws.FnSubFrac': WHATEVER THE INPUT: true; the input reads as it did. -/
def fnSubFracSpec : ChangeSpec := { name := "fnSubFrac", fn := fun _ => fun
  | [d] => { results := [.lit (.bool true)], args := [d] }
  | _ => none }
def fnSubFracRow : OpenClaim := { program := "ytihogilepflegab", sum := "860c29f87c006d635c6fc3ec8fc89a01f1fc8d6cd81c1f21cf02236592ff5ff5", func := "loop.example/watershares/laws.FnSubFrac", spec := "fnSubFrac", apart := false }
def FnSubFracSaid : Prop := fnSubFracRow.holds Try.pinned (OpenSpec.ofChange fnSubFracSpec)

/-- ITS FALSE NEIGHBOUR: 'it returns false'. Refute it at one input. -/
def fnSubFracWrong : ChangeSpec := { name := "fnSubFrac", fn := fun _ => fun
  | [d] => { results := [.lit (.bool false)], args := [d] }
  | _ => none }
def FnSubFracWrongFalsely : Prop := fnSubFracRow.holds Try.pinned (OpenSpec.ofChange fnSubFracWrong)

/-- 'laws.FnMulFrac': WHATEVER THE INPUT: true; the input reads as it did. -/
def fnMulFracSpec : ChangeSpec := { name := "fnMulFrac", fn := fun _ => fun
  | [d] => { results := [.lit (.bool true)], args := [d] }
  | _ => none }
def fnMulFracRow : OpenClaim := { program := "ytihogilepflegab", sum := "860c29f87c006d635c6fc3ec8fc89a01f1fc8d6cd81c1f21cf02236592ff5ff5", func := "loop.example/watershares/laws.FnMulFrac", spec := "fnMulFrac", apart := false }
def FnMulFracSaid : Prop := fnMulFracRow.holds Try.pinned (OpenSpec.ofChange fnMulFracSpec)

/-- ITS FALSE NEIGHBOUR: 'it returns false'. Refute it at one input. -/
def fnMulFracWrong : ChangeSpec := { name := "fnMulFrac", fn := fun _ => fun
  | [d] => { results := [.lit (.bool false)], args := [d] }
  | _ => none }
def FnMulFracWrongFalsely : Prop := fnMulFracRow.holds Try.pinned (OpenSpec.ofChange fnMulFracWrong)

/-- 'laws.FnPartOf': WHATEVER THE INPUT: true; the input reads as it did. -/
def fnPartOfSpec : ChangeSpec := { name := "fnPartOf", fn := fun _ => fun
  | [d] => { results := [.lit (.bool true)], args := [d] }
  | _ => none }
def fnPartOfRow : OpenClaim := { program := "ytihogilepflegab", sum := "860c29f87c006d635c6fc3ec8fc89a01f1fc8d6cd81c1f21cf02236592ff5ff5", func := "loop.example/watershares/laws.FnPartOf", spec := "fnPartOf", apart := false }
def FnPartOfSaid : Prop := fnPartOfRow.holds Try.pinned (OpenSpec.ofChange fnPartOfSpec)

/-- ITS FALSE NEIGHBOUR: 'it returns false'. Refute it at one input. -/
def fnPartOfWrong : ChangeSpec := { name := "fnPartOf", fn := fun _ => fun
  | [d] => { results := [.lit (.bool false)], args := [d] }
  | _ => none }
def FnPartOfWrongFalsely : Prop := fnPartOfRow.holds Try.pinned (OpenSpec.ofChange fnPartOfWrong)

/- THE SECOND FORM. 'bulk': how many values and letters a reading holds, each counted each time it is reached (what is shared counts as often as it is met; a slice's spare places count too). A statement '..UptoSaid' is the law's where the arguments, and the package variables that the reading takes, are together of bulk at most 1048576: NARROWER than '..Said'. Prove '..Said' where nothing that the law and all that it calls make is longer than what came in: it says more and counts as full. Else prove '..UptoSaid'. A law counts once. -/
mutual
def uptoBulk {H : Type} : DataW H → Nat
  | .lit (.string bytes) => bytes.length + 1
  | .lit _ => 1
  | .nil => 1
  | .ptr d => uptoBulk d + 1
  | .slice elems spare => uptoBulkAll elems + uptoBulkAll spare + 1
  | .agg parts => uptoBulkAll parts + 1
  | .iface _ d => uptoBulk d + 1
  | .map entries => uptoBulkEntries entries + 1
  | .held _ => 1
def uptoBulkAll {H : Type} : List (DataW H) → Nat
  | [] => 0
  | d :: r => uptoBulk d + uptoBulkAll r
def uptoBulkEntries {H : Type} : List (Lit × DataW H) → Nat
  | [] => 0
  | x :: r => uptoBulkEntry x + uptoBulkEntries r
def uptoBulkEntry {H : Type} : Lit × DataW H → Nat
  | (.string bytes, d) => bytes.length + uptoBulk d + 1
  | (_, d) => uptoBulk d + 1
 end
def uptoSmall : (H : Type) → List (DataW H) → Bool := fun _ ds => decide (uptoBulkAll ds ≤ 1048576)
def OpenSpec.upto (s : _root_.Go.ChangeSpec) : _root_.Go.OpenSpec := { _root_.Go.OpenSpec.ofChange s with cond := some uptoSmall }

/-- 'laws.FnValidFrac', WHERE WHAT IT READS IS OF BULK AT MOST 1048576: true; the input reads as it did. -/
def fnValidFracUptoRow : OpenClaim := { program := "ytihogilepflegab", sum := "860c29f87c006d635c6fc3ec8fc89a01f1fc8d6cd81c1f21cf02236592ff5ff5", func := "loop.example/watershares/laws.FnValidFrac", spec := "fnValidFrac", apart := false, narrowed := true }
def FnValidFracUptoSaid : Prop := fnValidFracUptoRow.holds Try.pinned (OpenSpec.upto fnValidFracSpec)

/-- 'laws.FnMakeFrac', WHERE WHAT IT READS IS OF BULK AT MOST 1048576: true; the input reads as it did. -/
def fnMakeFracUptoRow : OpenClaim := { program := "ytihogilepflegab", sum := "860c29f87c006d635c6fc3ec8fc89a01f1fc8d6cd81c1f21cf02236592ff5ff5", func := "loop.example/watershares/laws.FnMakeFrac", spec := "fnMakeFrac", apart := false, narrowed := true }
def FnMakeFracUptoSaid : Prop := fnMakeFracUptoRow.holds Try.pinned (OpenSpec.upto fnMakeFracSpec)

/-- 'laws.FnAddFrac', WHERE WHAT IT READS IS OF BULK AT MOST 1048576: true; the input reads as it did. -/
def fnAddFracUptoRow : OpenClaim := { program := "ytihogilepflegab", sum := "860c29f87c006d635c6fc3ec8fc89a01f1fc8d6cd81c1f21cf02236592ff5ff5", func := "loop.example/watershares/laws.FnAddFrac", spec := "fnAddFrac", apart := false, narrowed := true }
def FnAddFracUptoSaid : Prop := fnAddFracUptoRow.holds Try.pinned (OpenSpec.upto fnAddFracSpec)

/-- 'laws.FnCompareFrac', WHERE WHAT IT READS IS OF BULK AT MOST 1048576: true; the input reads as it did. -/
def fnCompareFracUptoRow : OpenClaim := { program := "ytihogilepflegab", sum := "860c29f87c006d635c6fc3ec8fc89a01f1fc8d6cd81c1f21cf02236592ff5ff5", func := "loop.example/watershares/laws.FnCompareFrac", spec := "fnCompareFrac", apart := false, narrowed := true }
def FnCompareFracUptoSaid : Prop := fnCompareFracUptoRow.holds Try.pinned (OpenSpec.upto fnCompareFracSpec)

/-- 'laws.FnSubFrac', WHERE WHAT IT READS IS OF BULK AT MOST 1048576: true; the input reads as it did. -/
def fnSubFracUptoRow : OpenClaim := { program := "ytihogilepflegab", sum := "860c29f87c006d635c6fc3ec8fc89a01f1fc8d6cd81c1f21cf02236592ff5ff5", func := "loop.example/watershares/laws.FnSubFrac", spec := "fnSubFrac", apart := false, narrowed := true }
def FnSubFracUptoSaid : Prop := fnSubFracUptoRow.holds Try.pinned (OpenSpec.upto fnSubFracSpec)

/-- 'laws.FnMulFrac', WHERE WHAT IT READS IS OF BULK AT MOST 1048576: true; the input reads as it did. -/
def fnMulFracUptoRow : OpenClaim := { program := "ytihogilepflegab", sum := "860c29f87c006d635c6fc3ec8fc89a01f1fc8d6cd81c1f21cf02236592ff5ff5", func := "loop.example/watershares/laws.FnMulFrac", spec := "fnMulFrac", apart := false, narrowed := true }
def FnMulFracUptoSaid : Prop := fnMulFracUptoRow.holds Try.pinned (OpenSpec.upto fnMulFracSpec)

/-- 'laws.FnPartOf', WHERE WHAT IT READS IS OF BULK AT MOST 1048576: true; the input reads as it did. -/
def fnPartOfUptoRow : OpenClaim := { program := "ytihogilepflegab", sum := "860c29f87c006d635c6fc3ec8fc89a01f1fc8d6cd81c1f21cf02236592ff5ff5", func := "loop.example/watershares/laws.FnPartOf", spec := "fnPartOf", apart := false, narrowed := true }
def FnPartOfUptoSaid : Prop := fnPartOfUptoRow.holds Try.pinned (OpenSpec.upto fnPartOfSpec)

end Rows
end Go.Proofs.Ytihogilepflegab
