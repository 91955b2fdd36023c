/-
  No cell of these rows narrows 'for every input' (looked for: loops, veiled, ifaces, maps, wideKeys, modest, calm, conditions, laid).
  DERIVED. THE GIVEN ROWS OF THIS SEAT. 5 by the template 'for every input the law returns true; each argument reads behind the call as it read before'; 0 by the template 'total and deterministic' (their statements: YtpkjnhpgeajgoaaTotals.lean).
  GIVEN WITH THE SEED: the statements are not yours to turn. If you find one false, say at which input.
  Laid BY PROGRAM, IN A SANDBOX (cutbox-rows.mjs): the forced cells as the released guide's own fill.sh prints them over the translation 2dff0f2308c1e7e6… (all of the seat's roots in one cut). By AI agents, Wed Nov 11 2026. No macro, syntax, notation, axiom, sorry.
-/
import Derived.Test.YtpkjnhpgeajgoaaChecked
import GoSem.Claim
import GoSem.ClaimJoined
import GoSem.ClaimMapViews
import Derived.JoinedTies
import Derived.KernelRfl
namespace Go.Proofs.Ytpkjnhpgeajgoaa
/- THE CELL 'sum', in the pinned program and in every row, IS THE sha256 OF THE DUMP (.gsa) THAT YtpkjnhpgeajgoaaProg.lean LOADS. Nothing in Lean hashes anything: it is a label: what it is worth is what the hold of that sum in a sandbox is worth. -/
noncomputable def Try.pinned : Pinned := { name := "ytpkjnhpgeajgoaa", sum := "2dff0f2308c1e7e6b1d955ecab5d1711e0f387e98e4db0defa7598b305a88aab", checked := Try.checked }
namespace Rows
def none {H : Type} : Left H := { results := [], args := [] }

/-- 'laws.FnValidWishes': WHATEVER THE INPUT: true; the input reads as it did. -/
def fnValidWishesSpec : ChangeSpec := { name := "fnValidWishes", fn := fun _ => fun
  | [d] => { results := [.lit (.bool true)], args := [d] }
  | _ => none }
def fnValidWishesRow : OpenClaim := { program := "ytpkjnhpgeajgoaa", sum := "2dff0f2308c1e7e6b1d955ecab5d1711e0f387e98e4db0defa7598b305a88aab", func := "loop.example/watershares/laws.FnValidWishes", spec := "fnValidWishes", apart := false }
def FnValidWishesSaid : Prop := fnValidWishesRow.holds Try.pinned (OpenSpec.ofChange fnValidWishesSpec)

/-- ITS FALSE NEIGHBOUR: 'it returns false'. Refute it at one input. -/
def fnValidWishesWrong : ChangeSpec := { name := "fnValidWishes", fn := fun _ => fun
  | [d] => { results := [.lit (.bool false)], args := [d] }
  | _ => none }
def FnValidWishesWrongFalsely : Prop := fnValidWishesRow.holds Try.pinned (OpenSpec.ofChange fnValidWishesWrong)

/-- 'laws.FnTradeTurns': WHATEVER THE INPUT: true; the input reads as it did. -/
def fnTradeTurnsSpec : ChangeSpec := { name := "fnTradeTurns", fn := fun _ => fun
  | [d] => { results := [.lit (.bool true)], args := [d] }
  | _ => none }
def fnTradeTurnsRow : OpenClaim := { program := "ytpkjnhpgeajgoaa", sum := "2dff0f2308c1e7e6b1d955ecab5d1711e0f387e98e4db0defa7598b305a88aab", func := "loop.example/watershares/laws.FnTradeTurns", spec := "fnTradeTurns", apart := false }
def FnTradeTurnsSaid : Prop := fnTradeTurnsRow.holds Try.pinned (OpenSpec.ofChange fnTradeTurnsSpec)

/-- ITS FALSE NEIGHBOUR: 'it returns false'. Refute it at one input. -/
def fnTradeTurnsWrong : ChangeSpec := { name := "fnTradeTurns", fn := fun _ => fun
  | [d] => { results := [.lit (.bool false)], args := [d] }
  | _ => none }
def FnTradeTurnsWrongFalsely : Prop := fnTradeTurnsRow.holds Try.pinned (OpenSpec.ofChange fnTradeTurnsWrong)

/-- 'laws.FnTradeTurnsStable': WHATEVER THE INPUT: true; the input reads as it did. -/
def fnTradeTurnsStableSpec : ChangeSpec := { name := "fnTradeTurnsStable", fn := fun _ => fun
  | [d] => { results := [.lit (.bool true)], args := [d] }
  | _ => none }
def fnTradeTurnsStableRow : OpenClaim := { program := "ytpkjnhpgeajgoaa", sum := "2dff0f2308c1e7e6b1d955ecab5d1711e0f387e98e4db0defa7598b305a88aab", func := "loop.example/watershares/laws.FnTradeTurnsStable", spec := "fnTradeTurnsStable", apart := false }
def FnTradeTurnsStableSaid : Prop := fnTradeTurnsStableRow.holds Try.pinned (OpenSpec.ofChange fnTradeTurnsStableSpec)

/-- ITS FALSE NEIGHBOUR: 'it returns false'. Refute it at one input. -/
def fnTradeTurnsStableWrong : ChangeSpec := { name := "fnTradeTurnsStable", fn := fun _ => fun
  | [d] => { results := [.lit (.bool false)], args := [d] }
  | _ => none }
def FnTradeTurnsStableWrongFalsely : Prop := fnTradeTurnsStableRow.holds Try.pinned (OpenSpec.ofChange fnTradeTurnsStableWrong)

/-- 'laws.FnTradeTurnsTruth': WHATEVER THE INPUT: true; the input reads as it did. -/
def fnTradeTurnsTruthSpec : ChangeSpec := { name := "fnTradeTurnsTruth", fn := fun _ => fun
  | [d] => { results := [.lit (.bool true)], args := [d] }
  | _ => none }
def fnTradeTurnsTruthRow : OpenClaim := { program := "ytpkjnhpgeajgoaa", sum := "2dff0f2308c1e7e6b1d955ecab5d1711e0f387e98e4db0defa7598b305a88aab", func := "loop.example/watershares/laws.FnTradeTurnsTruth", spec := "fnTradeTurnsTruth", apart := false }
def FnTradeTurnsTruthSaid : Prop := fnTradeTurnsTruthRow.holds Try.pinned (OpenSpec.ofChange fnTradeTurnsTruthSpec)

/-- ITS FALSE NEIGHBOUR: 'it returns false'. Refute it at one input. -/
def fnTradeTurnsTruthWrong : ChangeSpec := { name := "fnTradeTurnsTruth", fn := fun _ => fun
  | [d] => { results := [.lit (.bool false)], args := [d] }
  | _ => none }
def FnTradeTurnsTruthWrongFalsely : Prop := fnTradeTurnsTruthRow.holds Try.pinned (OpenSpec.ofChange fnTradeTurnsTruthWrong)

/-- 'laws.FnRankOf': WHATEVER THE INPUT: true; the input reads as it did. -/
def fnRankOfSpec : ChangeSpec := { name := "fnRankOf", fn := fun _ => fun
  | [d] => { results := [.lit (.bool true)], args := [d] }
  | _ => none }
def fnRankOfRow : OpenClaim := { program := "ytpkjnhpgeajgoaa", sum := "2dff0f2308c1e7e6b1d955ecab5d1711e0f387e98e4db0defa7598b305a88aab", func := "loop.example/watershares/laws.FnRankOf", spec := "fnRankOf", apart := false }
def FnRankOfSaid : Prop := fnRankOfRow.holds Try.pinned (OpenSpec.ofChange fnRankOfSpec)

/-- ITS FALSE NEIGHBOUR: 'it returns false'. Refute it at one input. -/
def fnRankOfWrong : ChangeSpec := { name := "fnRankOf", fn := fun _ => fun
  | [d] => { results := [.lit (.bool false)], args := [d] }
  | _ => none }
def FnRankOfWrongFalsely : Prop := fnRankOfRow.holds Try.pinned (OpenSpec.ofChange fnRankOfWrong)

/- THE SECOND FORM. 'bulk': how many values and letters a reading holds, each counted each time it is reached (what is shared counts as often as it is met; a slice's spare places count too). A statement '..UptoSaid' is the law's where the arguments, and the package variables that the reading takes, are together of bulk at most 1048576: NARROWER than '..Said'. Prove '..Said' where nothing that the law and all that it calls make is longer than what came in: it says more and counts as full. Else prove '..UptoSaid'. A law counts once. -/
mutual
def uptoBulk {H : Type} : DataW H → Nat
  | .lit (.string bytes) => bytes.length + 1
  | .lit _ => 1
  | .nil => 1
  | .ptr d => uptoBulk d + 1
  | .slice elems spare => uptoBulkAll elems + uptoBulkAll spare + 1
  | .agg parts => uptoBulkAll parts + 1
  | .iface _ d => uptoBulk d + 1
  | .map entries => uptoBulkEntries entries + 1
  | .held _ => 1
def uptoBulkAll {H : Type} : List (DataW H) → Nat
  | [] => 0
  | d :: r => uptoBulk d + uptoBulkAll r
def uptoBulkEntries {H : Type} : List (Lit × DataW H) → Nat
  | [] => 0
  | x :: r => uptoBulkEntry x + uptoBulkEntries r
def uptoBulkEntry {H : Type} : Lit × DataW H → Nat
  | (.string bytes, d) => bytes.length + uptoBulk d + 1
  | (_, d) => uptoBulk d + 1
 end
def uptoSmall : (H : Type) → List (DataW H) → Bool := fun _ ds => decide (uptoBulkAll ds ≤ 1048576)
def OpenSpec.upto (s : _root_.Go.ChangeSpec) : _root_.Go.OpenSpec := { _root_.Go.OpenSpec.ofChange s with cond := some uptoSmall }

/-- 'laws.FnValidWishes', WHERE WHAT IT READS IS OF BULK AT MOST 1048576: true; the input reads as it did. -/
def fnValidWishesUptoRow : OpenClaim := { program := "ytpkjnhpgeajgoaa", sum := "2dff0f2308c1e7e6b1d955ecab5d1711e0f387e98e4db0defa7598b305a88aab", func := "loop.example/watershares/laws.FnValidWishes", spec := "fnValidWishes", apart := false, narrowed := true }
def FnValidWishesUptoSaid : Prop := fnValidWishesUptoRow.holds Try.pinned (OpenSpec.upto fnValidWishesSpec)

/-- 'laws.FnTradeTurns', WHERE WHAT IT READS IS OF BULK AT MOST 1048576: true; the input reads as it did. -/
def fnTradeTurnsUptoRow : OpenClaim := { program := "ytpkjnhpgeajgoaa", sum := "2dff0f2308c1e7e6b1d955ecab5d1711e0f387e98e4db0defa7598b305a88aab", func := "loop.example/watershares/laws.FnTradeTurns", spec := "fnTradeTurns", apart := false, narrowed := true }
def FnTradeTurnsUptoSaid : Prop := fnTradeTurnsUptoRow.holds Try.pinned (OpenSpec.upto fnTradeTurnsSpec)

/-- 'laws.FnTradeTurnsStable', WHERE WHAT IT READS IS OF BULK AT MOST 1048576: true; the input reads as it did. -/
def fnTradeTurnsStableUptoRow : OpenClaim := { program := "ytpkjnhpgeajgoaa", sum := "2dff0f2308c1e7e6b1d955ecab5d1711e0f387e98e4db0defa7598b305a88aab", func := "loop.example/watershares/laws.FnTradeTurnsStable", spec := "fnTradeTurnsStable", apart := false, narrowed := true }
def FnTradeTurnsStableUptoSaid : Prop := fnTradeTurnsStableUptoRow.holds Try.pinned (OpenSpec.upto fnTradeTurnsStableSpec)

/-- 'laws.FnTradeTurnsTruth', WHERE WHAT IT READS IS OF BULK AT MOST 1048576: true; the input reads as it did. -/
def fnTradeTurnsTruthUptoRow : OpenClaim := { program := "ytpkjnhpgeajgoaa", sum := "2dff0f2308c1e7e6b1d955ecab5d1711e0f387e98e4db0defa7598b305a88aab", func := "loop.example/watershares/laws.FnTradeTurnsTruth", spec := "fnTradeTurnsTruth", apart := false, narrowed := true }
def FnTradeTurnsTruthUptoSaid : Prop := fnTradeTurnsTruthUptoRow.holds Try.pinned (OpenSpec.upto fnTradeTurnsTruthSpec)

/-- 'laws.FnRankOf', WHERE WHAT IT READS IS OF BULK AT MOST 1048576: true; the input reads as it did. -/
def fnRankOfUptoRow : OpenClaim := { program := "ytpkjnhpgeajgoaa", sum := "2dff0f2308c1e7e6b1d955ecab5d1711e0f387e98e4db0defa7598b305a88aab", func := "loop.example/watershares/laws.FnRankOf", spec := "fnRankOf", apart := false, narrowed := true }
def FnRankOfUptoSaid : Prop := fnRankOfUptoRow.holds Try.pinned (OpenSpec.upto fnRankOfSpec)

end Rows
end Go.Proofs.Ytpkjnhpgeajgoaa
