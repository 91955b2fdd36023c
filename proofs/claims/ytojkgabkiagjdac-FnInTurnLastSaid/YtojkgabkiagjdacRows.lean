/-
  No cell of these rows narrows 'for every input' (looked for: loops, veiled, ifaces, maps, wideKeys, modest, calm, conditions, laid).
  DERIVED. THE GIVEN ROWS OF THIS SEAT. 8 by the template 'for every input the law returns true; each argument reads behind the call as it read before'; 0 by the template 'total and deterministic' (their statements: YtojkgabkiagjdacTotals.lean).
  GIVEN WITH THE SEED: the statements are not yours to turn. If you find one false, say at which input.
  Laid BY PROGRAM, IN A SANDBOX (cutbox-rows.mjs): the forced cells as the released guide's own fill.sh prints them over the translation 4c6d41c75af80461… (all of the seat's roots in one cut). By AI agents, Wed Nov 11 2026. No macro, syntax, notation, axiom, sorry.
-/
import Derived.Test.YtojkgabkiagjdacChecked
import GoSem.Claim
import GoSem.ClaimJoined
import GoSem.ClaimMapViews
import Derived.JoinedTies
import Derived.KernelRfl
namespace Go.Proofs.Ytojkgabkiagjdac
/- THE CELL 'sum', in the pinned program and in every row, IS THE sha256 OF THE DUMP (.gsa) THAT YtojkgabkiagjdacProg.lean LOADS. Nothing in Lean hashes anything: it is a label: what it is worth is what the hold of that sum in a sandbox is worth. -/
noncomputable def Try.pinned : Pinned := { name := "ytojkgabkiagjdac", sum := "4c6d41c75af80461c3176353fd3e8404558a0ee68a4e145a947fc3d92d608d17", checked := Try.checked }
namespace Rows
def none {H : Type} : Left H := { results := [], args := [] }

/-- 'laws.FnInTurnLast': WHATEVER THE INPUT: true; the input reads as it did. -/
def fnInTurnLastSpec : ChangeSpec := { name := "fnInTurnLast", fn := fun _ => fun
  | [d] => { results := [.lit (.bool true)], args := [d] }
  | _ => none }
def fnInTurnLastRow : OpenClaim := { program := "ytojkgabkiagjdac", sum := "4c6d41c75af80461c3176353fd3e8404558a0ee68a4e145a947fc3d92d608d17", func := "loop.example/watershares/laws.FnInTurnLast", spec := "fnInTurnLast", apart := false }
def FnInTurnLastSaid : Prop := fnInTurnLastRow.holds Try.pinned (OpenSpec.ofChange fnInTurnLastSpec)

/-- ITS FALSE NEIGHBOUR: 'it returns false'. Refute it at one input. -/
def fnInTurnLastWrong : ChangeSpec := { name := "fnInTurnLast", fn := fun _ => fun
  | [d] => { results := [.lit (.bool false)], args := [d] }
  | _ => none }
def FnInTurnLastWrongFalsely : Prop := fnInTurnLastRow.holds Try.pinned (OpenSpec.ofChange fnInTurnLastWrong)

/-- 'laws.FnAllTurns': WHATEVER THE INPUT: true; the input reads as it did. -/
def fnAllTurnsSpec : ChangeSpec := { name := "fnAllTurns", fn := fun _ => fun
  | [d] => { results := [.lit (.bool true)], args := [d] }
  | _ => none }
def fnAllTurnsRow : OpenClaim := { program := "ytojkgabkiagjdac", sum := "4c6d41c75af80461c3176353fd3e8404558a0ee68a4e145a947fc3d92d608d17", func := "loop.example/watershares/laws.FnAllTurns", spec := "fnAllTurns", recurses := true, apart := false }
def FnAllTurnsSaid : Prop := fnAllTurnsRow.holds Try.pinned (OpenSpec.ofChange fnAllTurnsSpec)

/-- ITS FALSE NEIGHBOUR: 'it returns false'. Refute it at one input. -/
def fnAllTurnsWrong : ChangeSpec := { name := "fnAllTurns", fn := fun _ => fun
  | [d] => { results := [.lit (.bool false)], args := [d] }
  | _ => none }
def FnAllTurnsWrongFalsely : Prop := fnAllTurnsRow.holds Try.pinned (OpenSpec.ofChange fnAllTurnsWrong)

/-- 'laws.FnAllTurnsTurned': WHATEVER THE INPUT: true; the input reads as it did. -/
def fnAllTurnsTurnedSpec : ChangeSpec := { name := "fnAllTurnsTurned", fn := fun _ => fun
  | [d] => { results := [.lit (.bool true)], args := [d] }
  | _ => none }
def fnAllTurnsTurnedRow : OpenClaim := { program := "ytojkgabkiagjdac", sum := "4c6d41c75af80461c3176353fd3e8404558a0ee68a4e145a947fc3d92d608d17", func := "loop.example/watershares/laws.FnAllTurnsTurned", spec := "fnAllTurnsTurned", recurses := true, apart := false }
def FnAllTurnsTurnedSaid : Prop := fnAllTurnsTurnedRow.holds Try.pinned (OpenSpec.ofChange fnAllTurnsTurnedSpec)

/-- ITS FALSE NEIGHBOUR: 'it returns false'. Refute it at one input. -/
def fnAllTurnsTurnedWrong : ChangeSpec := { name := "fnAllTurnsTurned", fn := fun _ => fun
  | [d] => { results := [.lit (.bool false)], args := [d] }
  | _ => none }
def FnAllTurnsTurnedWrongFalsely : Prop := fnAllTurnsTurnedRow.holds Try.pinned (OpenSpec.ofChange fnAllTurnsTurnedWrong)

/-- 'laws.FnAllTurnsTwo': WHATEVER THE INPUT: true; the input reads as it did. -/
def fnAllTurnsTwoSpec : ChangeSpec := { name := "fnAllTurnsTwo", fn := fun _ => fun
  | [d] => { results := [.lit (.bool true)], args := [d] }
  | _ => none }
def fnAllTurnsTwoRow : OpenClaim := { program := "ytojkgabkiagjdac", sum := "4c6d41c75af80461c3176353fd3e8404558a0ee68a4e145a947fc3d92d608d17", func := "loop.example/watershares/laws.FnAllTurnsTwo", spec := "fnAllTurnsTwo", recurses := true, apart := false }
def FnAllTurnsTwoSaid : Prop := fnAllTurnsTwoRow.holds Try.pinned (OpenSpec.ofChange fnAllTurnsTwoSpec)

/-- ITS FALSE NEIGHBOUR: 'it returns false'. Refute it at one input. -/
def fnAllTurnsTwoWrong : ChangeSpec := { name := "fnAllTurnsTwo", fn := fun _ => fun
  | [d] => { results := [.lit (.bool false)], args := [d] }
  | _ => none }
def FnAllTurnsTwoWrongFalsely : Prop := fnAllTurnsTwoRow.holds Try.pinned (OpenSpec.ofChange fnAllTurnsTwoWrong)

/-- 'laws.FnAtLeast': WHATEVER THE INPUT: true; the input reads as it did. -/
def fnAtLeastSpec : ChangeSpec := { name := "fnAtLeast", fn := fun _ => fun
  | [d] => { results := [.lit (.bool true)], args := [d] }
  | _ => none }
def fnAtLeastRow : OpenClaim := { program := "ytojkgabkiagjdac", sum := "4c6d41c75af80461c3176353fd3e8404558a0ee68a4e145a947fc3d92d608d17", func := "loop.example/watershares/laws.FnAtLeast", spec := "fnAtLeast", apart := false }
def FnAtLeastSaid : Prop := fnAtLeastRow.holds Try.pinned (OpenSpec.ofChange fnAtLeastSpec)

/-- ITS FALSE NEIGHBOUR: 'it returns false'. Refute it at one input. -/
def fnAtLeastWrong : ChangeSpec := { name := "fnAtLeast", fn := fun _ => fun
  | [d] => { results := [.lit (.bool false)], args := [d] }
  | _ => none }
def FnAtLeastWrongFalsely : Prop := fnAtLeastRow.holds Try.pinned (OpenSpec.ofChange fnAtLeastWrong)

/-- 'laws.FnByShares': WHATEVER THE INPUT: true; the input reads as it did. -/
def fnBySharesSpec : ChangeSpec := { name := "fnByShares", fn := fun _ => fun
  | [d] => { results := [.lit (.bool true)], args := [d] }
  | _ => none }
def fnBySharesRow : OpenClaim := { program := "ytojkgabkiagjdac", sum := "4c6d41c75af80461c3176353fd3e8404558a0ee68a4e145a947fc3d92d608d17", func := "loop.example/watershares/laws.FnByShares", spec := "fnByShares", apart := false }
def FnBySharesSaid : Prop := fnBySharesRow.holds Try.pinned (OpenSpec.ofChange fnBySharesSpec)

/-- ITS FALSE NEIGHBOUR: 'it returns false'. Refute it at one input. -/
def fnBySharesWrong : ChangeSpec := { name := "fnByShares", fn := fun _ => fun
  | [d] => { results := [.lit (.bool false)], args := [d] }
  | _ => none }
def FnBySharesWrongFalsely : Prop := fnBySharesRow.holds Try.pinned (OpenSpec.ofChange fnBySharesWrong)

/-- 'laws.FnGapsOf': WHATEVER THE INPUT: true; the input reads as it did. -/
def fnGapsOfSpec : ChangeSpec := { name := "fnGapsOf", fn := fun _ => fun
  | [d] => { results := [.lit (.bool true)], args := [d] }
  | _ => none }
def fnGapsOfRow : OpenClaim := { program := "ytojkgabkiagjdac", sum := "4c6d41c75af80461c3176353fd3e8404558a0ee68a4e145a947fc3d92d608d17", func := "loop.example/watershares/laws.FnGapsOf", spec := "fnGapsOf", apart := false }
def FnGapsOfSaid : Prop := fnGapsOfRow.holds Try.pinned (OpenSpec.ofChange fnGapsOfSpec)

/-- ITS FALSE NEIGHBOUR: 'it returns false'. Refute it at one input. -/
def fnGapsOfWrong : ChangeSpec := { name := "fnGapsOf", fn := fun _ => fun
  | [d] => { results := [.lit (.bool false)], args := [d] }
  | _ => none }
def FnGapsOfWrongFalsely : Prop := fnGapsOfRow.holds Try.pinned (OpenSpec.ofChange fnGapsOfWrong)

/-- 'laws.FnGoodGifts': WHATEVER THE INPUT: true; the input reads as it did. -/
def fnGoodGiftsSpec : ChangeSpec := { name := "fnGoodGifts", fn := fun _ => fun
  | [d] => { results := [.lit (.bool true)], args := [d] }
  | _ => none }
def fnGoodGiftsRow : OpenClaim := { program := "ytojkgabkiagjdac", sum := "4c6d41c75af80461c3176353fd3e8404558a0ee68a4e145a947fc3d92d608d17", func := "loop.example/watershares/laws.FnGoodGifts", spec := "fnGoodGifts", apart := false }
def FnGoodGiftsSaid : Prop := fnGoodGiftsRow.holds Try.pinned (OpenSpec.ofChange fnGoodGiftsSpec)

/-- ITS FALSE NEIGHBOUR: 'it returns false'. Refute it at one input. -/
def fnGoodGiftsWrong : ChangeSpec := { name := "fnGoodGifts", fn := fun _ => fun
  | [d] => { results := [.lit (.bool false)], args := [d] }
  | _ => none }
def FnGoodGiftsWrongFalsely : Prop := fnGoodGiftsRow.holds Try.pinned (OpenSpec.ofChange fnGoodGiftsWrong)

/- THE SECOND FORM. 'bulk': how many values and letters a reading holds, each counted each time it is reached (what is shared counts as often as it is met; a slice's spare places count too). A statement '..UptoSaid' is the law's where the arguments, and the package variables that the reading takes, are together of bulk at most 1048576: NARROWER than '..Said'. Prove '..Said' where nothing that the law and all that it calls make is longer than what came in: it says more and counts as full. Else prove '..UptoSaid'. A law counts once. -/
mutual
def uptoBulk {H : Type} : DataW H → Nat
  | .lit (.string bytes) => bytes.length + 1
  | .lit _ => 1
  | .nil => 1
  | .ptr d => uptoBulk d + 1
  | .slice elems spare => uptoBulkAll elems + uptoBulkAll spare + 1
  | .agg parts => uptoBulkAll parts + 1
  | .iface _ d => uptoBulk d + 1
  | .map entries => uptoBulkEntries entries + 1
  | .held _ => 1
def uptoBulkAll {H : Type} : List (DataW H) → Nat
  | [] => 0
  | d :: r => uptoBulk d + uptoBulkAll r
def uptoBulkEntries {H : Type} : List (Lit × DataW H) → Nat
  | [] => 0
  | x :: r => uptoBulkEntry x + uptoBulkEntries r
def uptoBulkEntry {H : Type} : Lit × DataW H → Nat
  | (.string bytes, d) => bytes.length + uptoBulk d + 1
  | (_, d) => uptoBulk d + 1
 end
def uptoSmall : (H : Type) → List (DataW H) → Bool := fun _ ds => decide (uptoBulkAll ds ≤ 1048576)
def OpenSpec.upto (s : _root_.Go.ChangeSpec) : _root_.Go.OpenSpec := { _root_.Go.OpenSpec.ofChange s with cond := some uptoSmall }

/-- 'laws.FnInTurnLast', WHERE WHAT IT READS IS OF BULK AT MOST 1048576: true; the input reads as it did. -/
def fnInTurnLastUptoRow : OpenClaim := { program := "ytojkgabkiagjdac", sum := "4c6d41c75af80461c3176353fd3e8404558a0ee68a4e145a947fc3d92d608d17", func := "loop.example/watershares/laws.FnInTurnLast", spec := "fnInTurnLast", apart := false, narrowed := true }
def FnInTurnLastUptoSaid : Prop := fnInTurnLastUptoRow.holds Try.pinned (OpenSpec.upto fnInTurnLastSpec)

/-- 'laws.FnAllTurns', WHERE WHAT IT READS IS OF BULK AT MOST 1048576: true; the input reads as it did. -/
def fnAllTurnsUptoRow : OpenClaim := { program := "ytojkgabkiagjdac", sum := "4c6d41c75af80461c3176353fd3e8404558a0ee68a4e145a947fc3d92d608d17", func := "loop.example/watershares/laws.FnAllTurns", spec := "fnAllTurns", recurses := true, apart := false, narrowed := true }
def FnAllTurnsUptoSaid : Prop := fnAllTurnsUptoRow.holds Try.pinned (OpenSpec.upto fnAllTurnsSpec)

/-- 'laws.FnAllTurnsTurned', WHERE WHAT IT READS IS OF BULK AT MOST 1048576: true; the input reads as it did. -/
def fnAllTurnsTurnedUptoRow : OpenClaim := { program := "ytojkgabkiagjdac", sum := "4c6d41c75af80461c3176353fd3e8404558a0ee68a4e145a947fc3d92d608d17", func := "loop.example/watershares/laws.FnAllTurnsTurned", spec := "fnAllTurnsTurned", recurses := true, apart := false, narrowed := true }
def FnAllTurnsTurnedUptoSaid : Prop := fnAllTurnsTurnedUptoRow.holds Try.pinned (OpenSpec.upto fnAllTurnsTurnedSpec)

/-- 'laws.FnAllTurnsTwo', WHERE WHAT IT READS IS OF BULK AT MOST 1048576: true; the input reads as it did. -/
def fnAllTurnsTwoUptoRow : OpenClaim := { program := "ytojkgabkiagjdac", sum := "4c6d41c75af80461c3176353fd3e8404558a0ee68a4e145a947fc3d92d608d17", func := "loop.example/watershares/laws.FnAllTurnsTwo", spec := "fnAllTurnsTwo", recurses := true, apart := false, narrowed := true }
def FnAllTurnsTwoUptoSaid : Prop := fnAllTurnsTwoUptoRow.holds Try.pinned (OpenSpec.upto fnAllTurnsTwoSpec)

/-- 'laws.FnAtLeast', WHERE WHAT IT READS IS OF BULK AT MOST 1048576: true; the input reads as it did. -/
def fnAtLeastUptoRow : OpenClaim := { program := "ytojkgabkiagjdac", sum := "4c6d41c75af80461c3176353fd3e8404558a0ee68a4e145a947fc3d92d608d17", func := "loop.example/watershares/laws.FnAtLeast", spec := "fnAtLeast", apart := false, narrowed := true }
def FnAtLeastUptoSaid : Prop := fnAtLeastUptoRow.holds Try.pinned (OpenSpec.upto fnAtLeastSpec)

/-- 'laws.FnByShares', WHERE WHAT IT READS IS OF BULK AT MOST 1048576: true; the input reads as it did. -/
def fnBySharesUptoRow : OpenClaim := { program := "ytojkgabkiagjdac", sum := "4c6d41c75af80461c3176353fd3e8404558a0ee68a4e145a947fc3d92d608d17", func := "loop.example/watershares/laws.FnByShares", spec := "fnByShares", apart := false, narrowed := true }
def FnBySharesUptoSaid : Prop := fnBySharesUptoRow.holds Try.pinned (OpenSpec.upto fnBySharesSpec)

/-- 'laws.FnGapsOf', WHERE WHAT IT READS IS OF BULK AT MOST 1048576: true; the input reads as it did. -/
def fnGapsOfUptoRow : OpenClaim := { program := "ytojkgabkiagjdac", sum := "4c6d41c75af80461c3176353fd3e8404558a0ee68a4e145a947fc3d92d608d17", func := "loop.example/watershares/laws.FnGapsOf", spec := "fnGapsOf", apart := false, narrowed := true }
def FnGapsOfUptoSaid : Prop := fnGapsOfUptoRow.holds Try.pinned (OpenSpec.upto fnGapsOfSpec)

/-- 'laws.FnGoodGifts', WHERE WHAT IT READS IS OF BULK AT MOST 1048576: true; the input reads as it did. -/
def fnGoodGiftsUptoRow : OpenClaim := { program := "ytojkgabkiagjdac", sum := "4c6d41c75af80461c3176353fd3e8404558a0ee68a4e145a947fc3d92d608d17", func := "loop.example/watershares/laws.FnGoodGifts", spec := "fnGoodGifts", apart := false, narrowed := true }
def FnGoodGiftsUptoSaid : Prop := fnGoodGiftsUptoRow.holds Try.pinned (OpenSpec.upto fnGoodGiftsSpec)

end Rows
end Go.Proofs.Ytojkgabkiagjdac
