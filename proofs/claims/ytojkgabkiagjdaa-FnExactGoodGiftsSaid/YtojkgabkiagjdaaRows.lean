/-
  No cell of these rows narrows 'for every input' (looked for: loops, veiled, ifaces, maps, wideKeys, modest, calm, conditions, laid).
  DERIVED. THE GIVEN ROWS OF THIS SEAT. 10 by the template 'for every input the law returns true; each argument reads behind the call as it read before'; 0 by the template 'total and deterministic' (their statements: YtojkgabkiagjdaaTotals.lean).
  GIVEN WITH THE SEED: the statements are not yours to turn. If you find one false, say at which input.
  Laid BY PROGRAM, IN A SANDBOX (cutbox-rows.mjs): the forced cells as the released guide's own fill.sh prints them over the translation ed52493a658c9b1e… (all of the seat's roots in one cut). By AI agents, Wed Nov 11 2026. No macro, syntax, notation, axiom, sorry.
-/
import Derived.Test.YtojkgabkiagjdaaChecked
import GoSem.Claim
import GoSem.ClaimJoined
import GoSem.ClaimMapViews
import Derived.JoinedTies
import Derived.KernelRfl
namespace Go.Proofs.Ytojkgabkiagjdaa
/- THE CELL 'sum', in the pinned program and in every row, IS THE sha256 OF THE DUMP (.gsa) THAT YtojkgabkiagjdaaProg.lean LOADS. Nothing in Lean hashes anything: it is a label: what it is worth is what the hold of that sum in a sandbox is worth. -/
noncomputable def Try.pinned : Pinned := { name := "ytojkgabkiagjdaa", sum := "ed52493a658c9b1e83ddf71b8f82e28db44cb90965e55d3b6826e58ad74774a0", checked := Try.checked }
namespace Rows
def none {H : Type} : Left H := { results := [], args := [] }

/-- 'laws.FnExactValidClaims': WHATEVER THE INPUT: true; the input reads as it did. -/
def fnExactValidClaimsSpec : ChangeSpec := { name := "fnExactValidClaims", fn := fun _ => fun
  | [d1, d2] => { results := [.lit (.bool true)], args := [d1, d2] }
  | _ => none }
def fnExactValidClaimsRow : OpenClaim := { program := "ytojkgabkiagjdaa", sum := "ed52493a658c9b1e83ddf71b8f82e28db44cb90965e55d3b6826e58ad74774a0", func := "loop.example/watershares/laws.FnExactValidClaims", spec := "fnExactValidClaims", apart := false }
def FnExactValidClaimsSaid : Prop := fnExactValidClaimsRow.holds Try.pinned (OpenSpec.ofChange fnExactValidClaimsSpec)

/-- ITS FALSE NEIGHBOUR: 'it returns false'. Refute it at one input. -/
def fnExactValidClaimsWrong : ChangeSpec := { name := "fnExactValidClaims", fn := fun _ => fun
  | [d1, d2] => { results := [.lit (.bool false)], args := [d1, d2] }
  | _ => none }
def FnExactValidClaimsWrongFalsely : Prop := fnExactValidClaimsRow.holds Try.pinned (OpenSpec.ofChange fnExactValidClaimsWrong)

/-- 'laws.FnExactEqualGains': WHATEVER THE INPUT: true; the input reads as it did. -/
def fnExactEqualGainsSpec : ChangeSpec := { name := "fnExactEqualGains", fn := fun _ => fun
  | [d1, d2] => { results := [.lit (.bool true)], args := [d1, d2] }
  | _ => none }
def fnExactEqualGainsRow : OpenClaim := { program := "ytojkgabkiagjdaa", sum := "ed52493a658c9b1e83ddf71b8f82e28db44cb90965e55d3b6826e58ad74774a0", func := "loop.example/watershares/laws.FnExactEqualGains", spec := "fnExactEqualGains", apart := false }
def FnExactEqualGainsSaid : Prop := fnExactEqualGainsRow.holds Try.pinned (OpenSpec.ofChange fnExactEqualGainsSpec)

/-- ITS FALSE NEIGHBOUR: 'it returns false'. Refute it at one input. -/
def fnExactEqualGainsWrong : ChangeSpec := { name := "fnExactEqualGains", fn := fun _ => fun
  | [d1, d2] => { results := [.lit (.bool false)], args := [d1, d2] }
  | _ => none }
def FnExactEqualGainsWrongFalsely : Prop := fnExactEqualGainsRow.holds Try.pinned (OpenSpec.ofChange fnExactEqualGainsWrong)

/-- 'laws.FnExactEqualLosses': WHATEVER THE INPUT: true; the input reads as it did. -/
def fnExactEqualLossesSpec : ChangeSpec := { name := "fnExactEqualLosses", fn := fun _ => fun
  | [d1, d2] => { results := [.lit (.bool true)], args := [d1, d2] }
  | _ => none }
def fnExactEqualLossesRow : OpenClaim := { program := "ytojkgabkiagjdaa", sum := "ed52493a658c9b1e83ddf71b8f82e28db44cb90965e55d3b6826e58ad74774a0", func := "loop.example/watershares/laws.FnExactEqualLosses", spec := "fnExactEqualLosses", apart := false }
def FnExactEqualLossesSaid : Prop := fnExactEqualLossesRow.holds Try.pinned (OpenSpec.ofChange fnExactEqualLossesSpec)

/-- ITS FALSE NEIGHBOUR: 'it returns false'. Refute it at one input. -/
def fnExactEqualLossesWrong : ChangeSpec := { name := "fnExactEqualLosses", fn := fun _ => fun
  | [d1, d2] => { results := [.lit (.bool false)], args := [d1, d2] }
  | _ => none }
def FnExactEqualLossesWrongFalsely : Prop := fnExactEqualLossesRow.holds Try.pinned (OpenSpec.ofChange fnExactEqualLossesWrong)

/-- 'laws.FnExactHalfFirst': WHATEVER THE INPUT: true; the input reads as it did. -/
def fnExactHalfFirstSpec : ChangeSpec := { name := "fnExactHalfFirst", fn := fun _ => fun
  | [d1, d2] => { results := [.lit (.bool true)], args := [d1, d2] }
  | _ => none }
def fnExactHalfFirstRow : OpenClaim := { program := "ytojkgabkiagjdaa", sum := "ed52493a658c9b1e83ddf71b8f82e28db44cb90965e55d3b6826e58ad74774a0", func := "loop.example/watershares/laws.FnExactHalfFirst", spec := "fnExactHalfFirst", apart := false }
def FnExactHalfFirstSaid : Prop := fnExactHalfFirstRow.holds Try.pinned (OpenSpec.ofChange fnExactHalfFirstSpec)

/-- ITS FALSE NEIGHBOUR: 'it returns false'. Refute it at one input. -/
def fnExactHalfFirstWrong : ChangeSpec := { name := "fnExactHalfFirst", fn := fun _ => fun
  | [d1, d2] => { results := [.lit (.bool false)], args := [d1, d2] }
  | _ => none }
def FnExactHalfFirstWrongFalsely : Prop := fnExactHalfFirstRow.holds Try.pinned (OpenSpec.ofChange fnExactHalfFirstWrong)

/-- 'laws.FnExactInTurn': WHATEVER THE INPUT: true; the input reads as it did. -/
def fnExactInTurnSpec : ChangeSpec := { name := "fnExactInTurn", fn := fun _ => fun
  | [d1, d2, d3] => { results := [.lit (.bool true)], args := [d1, d2, d3] }
  | _ => none }
def fnExactInTurnRow : OpenClaim := { program := "ytojkgabkiagjdaa", sum := "ed52493a658c9b1e83ddf71b8f82e28db44cb90965e55d3b6826e58ad74774a0", func := "loop.example/watershares/laws.FnExactInTurn", spec := "fnExactInTurn", apart := false }
def FnExactInTurnSaid : Prop := fnExactInTurnRow.holds Try.pinned (OpenSpec.ofChange fnExactInTurnSpec)

/-- ITS FALSE NEIGHBOUR: 'it returns false'. Refute it at one input. -/
def fnExactInTurnWrong : ChangeSpec := { name := "fnExactInTurn", fn := fun _ => fun
  | [d1, d2, d3] => { results := [.lit (.bool false)], args := [d1, d2, d3] }
  | _ => none }
def FnExactInTurnWrongFalsely : Prop := fnExactInTurnRow.holds Try.pinned (OpenSpec.ofChange fnExactInTurnWrong)

/-- 'laws.FnExactAllTurns': WHATEVER THE INPUT: true; the input reads as it did. -/
def fnExactAllTurnsSpec : ChangeSpec := { name := "fnExactAllTurns", fn := fun _ => fun
  | [d1, d2] => { results := [.lit (.bool true)], args := [d1, d2] }
  | _ => none }
def fnExactAllTurnsRow : OpenClaim := { program := "ytojkgabkiagjdaa", sum := "ed52493a658c9b1e83ddf71b8f82e28db44cb90965e55d3b6826e58ad74774a0", func := "loop.example/watershares/laws.FnExactAllTurns", spec := "fnExactAllTurns", recurses := true, apart := false }
def FnExactAllTurnsSaid : Prop := fnExactAllTurnsRow.holds Try.pinned (OpenSpec.ofChange fnExactAllTurnsSpec)

/-- ITS FALSE NEIGHBOUR: 'it returns false'. Refute it at one input. -/
def fnExactAllTurnsWrong : ChangeSpec := { name := "fnExactAllTurns", fn := fun _ => fun
  | [d1, d2] => { results := [.lit (.bool false)], args := [d1, d2] }
  | _ => none }
def FnExactAllTurnsWrongFalsely : Prop := fnExactAllTurnsRow.holds Try.pinned (OpenSpec.ofChange fnExactAllTurnsWrong)

/-- 'laws.FnExactAtLeast': WHATEVER THE INPUT: true; the input reads as it did. -/
def fnExactAtLeastSpec : ChangeSpec := { name := "fnExactAtLeast", fn := fun _ => fun
  | [d1, d2] => { results := [.lit (.bool true)], args := [d1, d2] }
  | _ => none }
def fnExactAtLeastRow : OpenClaim := { program := "ytojkgabkiagjdaa", sum := "ed52493a658c9b1e83ddf71b8f82e28db44cb90965e55d3b6826e58ad74774a0", func := "loop.example/watershares/laws.FnExactAtLeast", spec := "fnExactAtLeast", apart := false }
def FnExactAtLeastSaid : Prop := fnExactAtLeastRow.holds Try.pinned (OpenSpec.ofChange fnExactAtLeastSpec)

/-- ITS FALSE NEIGHBOUR: 'it returns false'. Refute it at one input. -/
def fnExactAtLeastWrong : ChangeSpec := { name := "fnExactAtLeast", fn := fun _ => fun
  | [d1, d2] => { results := [.lit (.bool false)], args := [d1, d2] }
  | _ => none }
def FnExactAtLeastWrongFalsely : Prop := fnExactAtLeastRow.holds Try.pinned (OpenSpec.ofChange fnExactAtLeastWrong)

/-- 'laws.FnExactByShares': WHATEVER THE INPUT: true; the input reads as it did. -/
def fnExactBySharesSpec : ChangeSpec := { name := "fnExactByShares", fn := fun _ => fun
  | [d1, d2] => { results := [.lit (.bool true)], args := [d1, d2] }
  | _ => none }
def fnExactBySharesRow : OpenClaim := { program := "ytojkgabkiagjdaa", sum := "ed52493a658c9b1e83ddf71b8f82e28db44cb90965e55d3b6826e58ad74774a0", func := "loop.example/watershares/laws.FnExactByShares", spec := "fnExactByShares", apart := false }
def FnExactBySharesSaid : Prop := fnExactBySharesRow.holds Try.pinned (OpenSpec.ofChange fnExactBySharesSpec)

/-- ITS FALSE NEIGHBOUR: 'it returns false'. Refute it at one input. -/
def fnExactBySharesWrong : ChangeSpec := { name := "fnExactByShares", fn := fun _ => fun
  | [d1, d2] => { results := [.lit (.bool false)], args := [d1, d2] }
  | _ => none }
def FnExactBySharesWrongFalsely : Prop := fnExactBySharesRow.holds Try.pinned (OpenSpec.ofChange fnExactBySharesWrong)

/-- 'laws.FnExactGapsOf': WHATEVER THE INPUT: true; the input reads as it did. -/
def fnExactGapsOfSpec : ChangeSpec := { name := "fnExactGapsOf", fn := fun _ => fun
  | [d] => { results := [.lit (.bool true)], args := [d] }
  | _ => none }
def fnExactGapsOfRow : OpenClaim := { program := "ytojkgabkiagjdaa", sum := "ed52493a658c9b1e83ddf71b8f82e28db44cb90965e55d3b6826e58ad74774a0", func := "loop.example/watershares/laws.FnExactGapsOf", spec := "fnExactGapsOf", apart := false }
def FnExactGapsOfSaid : Prop := fnExactGapsOfRow.holds Try.pinned (OpenSpec.ofChange fnExactGapsOfSpec)

/-- ITS FALSE NEIGHBOUR: 'it returns false'. Refute it at one input. -/
def fnExactGapsOfWrong : ChangeSpec := { name := "fnExactGapsOf", fn := fun _ => fun
  | [d] => { results := [.lit (.bool false)], args := [d] }
  | _ => none }
def FnExactGapsOfWrongFalsely : Prop := fnExactGapsOfRow.holds Try.pinned (OpenSpec.ofChange fnExactGapsOfWrong)

/-- 'laws.FnExactGoodGifts': WHATEVER THE INPUT: true; the input reads as it did. -/
def fnExactGoodGiftsSpec : ChangeSpec := { name := "fnExactGoodGifts", fn := fun _ => fun
  | [d1, d2, d3] => { results := [.lit (.bool true)], args := [d1, d2, d3] }
  | _ => none }
def fnExactGoodGiftsRow : OpenClaim := { program := "ytojkgabkiagjdaa", sum := "ed52493a658c9b1e83ddf71b8f82e28db44cb90965e55d3b6826e58ad74774a0", func := "loop.example/watershares/laws.FnExactGoodGifts", spec := "fnExactGoodGifts", apart := false }
def FnExactGoodGiftsSaid : Prop := fnExactGoodGiftsRow.holds Try.pinned (OpenSpec.ofChange fnExactGoodGiftsSpec)

/-- ITS FALSE NEIGHBOUR: 'it returns false'. Refute it at one input. -/
def fnExactGoodGiftsWrong : ChangeSpec := { name := "fnExactGoodGifts", fn := fun _ => fun
  | [d1, d2, d3] => { results := [.lit (.bool false)], args := [d1, d2, d3] }
  | _ => none }
def FnExactGoodGiftsWrongFalsely : Prop := fnExactGoodGiftsRow.holds Try.pinned (OpenSpec.ofChange fnExactGoodGiftsWrong)

/- THE SECOND FORM. 'bulk': how many values and letters a reading holds, each counted each time it is reached (what is shared counts as often as it is met; a slice's spare places count too). A statement '..UptoSaid' is the law's where the arguments, and the package variables that the reading takes, are together of bulk at most 1048576: NARROWER than '..Said'. Prove '..Said' where nothing that the law and all that it calls make is longer than what came in: it says more and counts as full. Else prove '..UptoSaid'. A law counts once. -/
mutual
def uptoBulk {H : Type} : DataW H → Nat
  | .lit (.string bytes) => bytes.length + 1
  | .lit _ => 1
  | .nil => 1
  | .ptr d => uptoBulk d + 1
  | .slice elems spare => uptoBulkAll elems + uptoBulkAll spare + 1
  | .agg parts => uptoBulkAll parts + 1
  | .iface _ d => uptoBulk d + 1
  | .map entries => uptoBulkEntries entries + 1
  | .held _ => 1
def uptoBulkAll {H : Type} : List (DataW H) → Nat
  | [] => 0
  | d :: r => uptoBulk d + uptoBulkAll r
def uptoBulkEntries {H : Type} : List (Lit × DataW H) → Nat
  | [] => 0
  | x :: r => uptoBulkEntry x + uptoBulkEntries r
def uptoBulkEntry {H : Type} : Lit × DataW H → Nat
  | (.string bytes, d) => bytes.length + uptoBulk d + 1
  | (_, d) => uptoBulk d + 1
 end
def uptoSmall : (H : Type) → List (DataW H) → Bool := fun _ ds => decide (uptoBulkAll ds ≤ 1048576)
def OpenSpec.upto (s : _root_.Go.ChangeSpec) : _root_.Go.OpenSpec := { _root_.Go.OpenSpec.ofChange s with cond := some uptoSmall }

/-- 'laws.FnExactValidClaims', WHERE WHAT IT READS IS OF BULK AT MOST 1048576: true; the input reads as it did. -/
def fnExactValidClaimsUptoRow : OpenClaim := { program := "ytojkgabkiagjdaa", sum := "ed52493a658c9b1e83ddf71b8f82e28db44cb90965e55d3b6826e58ad74774a0", func := "loop.example/watershares/laws.FnExactValidClaims", spec := "fnExactValidClaims", apart := false, narrowed := true }
def FnExactValidClaimsUptoSaid : Prop := fnExactValidClaimsUptoRow.holds Try.pinned (OpenSpec.upto fnExactValidClaimsSpec)

/-- 'laws.FnExactEqualGains', WHERE WHAT IT READS IS OF BULK AT MOST 1048576: true; the input reads as it did. -/
def fnExactEqualGainsUptoRow : OpenClaim := { program := "ytojkgabkiagjdaa", sum := "ed52493a658c9b1e83ddf71b8f82e28db44cb90965e55d3b6826e58ad74774a0", func := "loop.example/watershares/laws.FnExactEqualGains", spec := "fnExactEqualGains", apart := false, narrowed := true }
def FnExactEqualGainsUptoSaid : Prop := fnExactEqualGainsUptoRow.holds Try.pinned (OpenSpec.upto fnExactEqualGainsSpec)

/-- 'laws.FnExactEqualLosses', WHERE WHAT IT READS IS OF BULK AT MOST 1048576: true; the input reads as it did. -/
def fnExactEqualLossesUptoRow : OpenClaim := { program := "ytojkgabkiagjdaa", sum := "ed52493a658c9b1e83ddf71b8f82e28db44cb90965e55d3b6826e58ad74774a0", func := "loop.example/watershares/laws.FnExactEqualLosses", spec := "fnExactEqualLosses", apart := false, narrowed := true }
def FnExactEqualLossesUptoSaid : Prop := fnExactEqualLossesUptoRow.holds Try.pinned (OpenSpec.upto fnExactEqualLossesSpec)

/-- 'laws.FnExactHalfFirst', WHERE WHAT IT READS IS OF BULK AT MOST 1048576: true; the input reads as it did. -/
def fnExactHalfFirstUptoRow : OpenClaim := { program := "ytojkgabkiagjdaa", sum := "ed52493a658c9b1e83ddf71b8f82e28db44cb90965e55d3b6826e58ad74774a0", func := "loop.example/watershares/laws.FnExactHalfFirst", spec := "fnExactHalfFirst", apart := false, narrowed := true }
def FnExactHalfFirstUptoSaid : Prop := fnExactHalfFirstUptoRow.holds Try.pinned (OpenSpec.upto fnExactHalfFirstSpec)

/-- 'laws.FnExactInTurn', WHERE WHAT IT READS IS OF BULK AT MOST 1048576: true; the input reads as it did. -/
def fnExactInTurnUptoRow : OpenClaim := { program := "ytojkgabkiagjdaa", sum := "ed52493a658c9b1e83ddf71b8f82e28db44cb90965e55d3b6826e58ad74774a0", func := "loop.example/watershares/laws.FnExactInTurn", spec := "fnExactInTurn", apart := false, narrowed := true }
def FnExactInTurnUptoSaid : Prop := fnExactInTurnUptoRow.holds Try.pinned (OpenSpec.upto fnExactInTurnSpec)

/-- 'laws.FnExactAllTurns', WHERE WHAT IT READS IS OF BULK AT MOST 1048576: true; the input reads as it did. -/
def fnExactAllTurnsUptoRow : OpenClaim := { program := "ytojkgabkiagjdaa", sum := "ed52493a658c9b1e83ddf71b8f82e28db44cb90965e55d3b6826e58ad74774a0", func := "loop.example/watershares/laws.FnExactAllTurns", spec := "fnExactAllTurns", recurses := true, apart := false, narrowed := true }
def FnExactAllTurnsUptoSaid : Prop := fnExactAllTurnsUptoRow.holds Try.pinned (OpenSpec.upto fnExactAllTurnsSpec)

/-- 'laws.FnExactAtLeast', WHERE WHAT IT READS IS OF BULK AT MOST 1048576: true; the input reads as it did. -/
def fnExactAtLeastUptoRow : OpenClaim := { program := "ytojkgabkiagjdaa", sum := "ed52493a658c9b1e83ddf71b8f82e28db44cb90965e55d3b6826e58ad74774a0", func := "loop.example/watershares/laws.FnExactAtLeast", spec := "fnExactAtLeast", apart := false, narrowed := true }
def FnExactAtLeastUptoSaid : Prop := fnExactAtLeastUptoRow.holds Try.pinned (OpenSpec.upto fnExactAtLeastSpec)

/-- 'laws.FnExactByShares', WHERE WHAT IT READS IS OF BULK AT MOST 1048576: true; the input reads as it did. -/
def fnExactBySharesUptoRow : OpenClaim := { program := "ytojkgabkiagjdaa", sum := "ed52493a658c9b1e83ddf71b8f82e28db44cb90965e55d3b6826e58ad74774a0", func := "loop.example/watershares/laws.FnExactByShares", spec := "fnExactByShares", apart := false, narrowed := true }
def FnExactBySharesUptoSaid : Prop := fnExactBySharesUptoRow.holds Try.pinned (OpenSpec.upto fnExactBySharesSpec)

/-- 'laws.FnExactGapsOf', WHERE WHAT IT READS IS OF BULK AT MOST 1048576: true; the input reads as it did. -/
def fnExactGapsOfUptoRow : OpenClaim := { program := "ytojkgabkiagjdaa", sum := "ed52493a658c9b1e83ddf71b8f82e28db44cb90965e55d3b6826e58ad74774a0", func := "loop.example/watershares/laws.FnExactGapsOf", spec := "fnExactGapsOf", apart := false, narrowed := true }
def FnExactGapsOfUptoSaid : Prop := fnExactGapsOfUptoRow.holds Try.pinned (OpenSpec.upto fnExactGapsOfSpec)

/-- 'laws.FnExactGoodGifts', WHERE WHAT IT READS IS OF BULK AT MOST 1048576: true; the input reads as it did. -/
def fnExactGoodGiftsUptoRow : OpenClaim := { program := "ytojkgabkiagjdaa", sum := "ed52493a658c9b1e83ddf71b8f82e28db44cb90965e55d3b6826e58ad74774a0", func := "loop.example/watershares/laws.FnExactGoodGifts", spec := "fnExactGoodGifts", apart := false, narrowed := true }
def FnExactGoodGiftsUptoSaid : Prop := fnExactGoodGiftsUptoRow.holds Try.pinned (OpenSpec.upto fnExactGoodGiftsSpec)

end Rows
end Go.Proofs.Ytojkgabkiagjdaa
