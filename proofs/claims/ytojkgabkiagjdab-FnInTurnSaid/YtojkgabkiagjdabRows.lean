/-
  No cell of these rows narrows 'for every input' (looked for: loops, veiled, ifaces, maps, wideKeys, modest, calm, conditions, laid).
  DERIVED. THE GIVEN ROWS OF THIS SEAT. 10 by the template 'for every input the law returns true; each argument reads behind the call as it read before'; 0 by the template 'total and deterministic' (their statements: YtojkgabkiagjdabTotals.lean).
  GIVEN WITH THE SEED: the statements are not yours to turn. If you find one false, say at which input.
  Laid BY PROGRAM, IN A SANDBOX (cutbox-rows.mjs): the forced cells as the released guide's own fill.sh prints them over the translation 53a91b7ecb8d779c… (all of the seat's roots in one cut). By AI agents, Wed Nov 11 2026. No macro, syntax, notation, axiom, sorry.
-/
import Derived.Test.YtojkgabkiagjdabChecked
import GoSem.Claim
import GoSem.ClaimJoined
import GoSem.ClaimMapViews
import Derived.JoinedTies
import Derived.KernelRfl
namespace Go.Proofs.Ytojkgabkiagjdab
/- THE CELL 'sum', in the pinned program and in every row, IS THE sha256 OF THE DUMP (.gsa) THAT YtojkgabkiagjdabProg.lean LOADS. Nothing in Lean hashes anything: it is a label: what it is worth is what the hold of that sum in a sandbox is worth. -/
noncomputable def Try.pinned : Pinned := { name := "ytojkgabkiagjdab", sum := "53a91b7ecb8d779c8a6b45350506f9c291ad8efc8cda27773622b9bc54290343", checked := Try.checked }
namespace Rows
def none {H : Type} : Left H := { results := [], args := [] }

/-- 'laws.FnValidClaims': WHATEVER THE INPUT: true; the input reads as it did. -/
def fnValidClaimsSpec : ChangeSpec := { name := "fnValidClaims", fn := fun _ => fun
  | [d] => { results := [.lit (.bool true)], args := [d] }
  | _ => none }
def fnValidClaimsRow : OpenClaim := { program := "ytojkgabkiagjdab", sum := "53a91b7ecb8d779c8a6b45350506f9c291ad8efc8cda27773622b9bc54290343", func := "loop.example/watershares/laws.FnValidClaims", spec := "fnValidClaims", apart := false }
def FnValidClaimsSaid : Prop := fnValidClaimsRow.holds Try.pinned (OpenSpec.ofChange fnValidClaimsSpec)

/-- ITS FALSE NEIGHBOUR: 'it returns false'. Refute it at one input. -/
def fnValidClaimsWrong : ChangeSpec := { name := "fnValidClaims", fn := fun _ => fun
  | [d] => { results := [.lit (.bool false)], args := [d] }
  | _ => none }
def FnValidClaimsWrongFalsely : Prop := fnValidClaimsRow.holds Try.pinned (OpenSpec.ofChange fnValidClaimsWrong)

/-- 'laws.FnEqualGains': WHATEVER THE INPUT: true; the input reads as it did. -/
def fnEqualGainsSpec : ChangeSpec := { name := "fnEqualGains", fn := fun _ => fun
  | [d] => { results := [.lit (.bool true)], args := [d] }
  | _ => none }
def fnEqualGainsRow : OpenClaim := { program := "ytojkgabkiagjdab", sum := "53a91b7ecb8d779c8a6b45350506f9c291ad8efc8cda27773622b9bc54290343", func := "loop.example/watershares/laws.FnEqualGains", spec := "fnEqualGains", apart := false }
def FnEqualGainsSaid : Prop := fnEqualGainsRow.holds Try.pinned (OpenSpec.ofChange fnEqualGainsSpec)

/-- ITS FALSE NEIGHBOUR: 'it returns false'. Refute it at one input. -/
def fnEqualGainsWrong : ChangeSpec := { name := "fnEqualGains", fn := fun _ => fun
  | [d] => { results := [.lit (.bool false)], args := [d] }
  | _ => none }
def FnEqualGainsWrongFalsely : Prop := fnEqualGainsRow.holds Try.pinned (OpenSpec.ofChange fnEqualGainsWrong)

/-- 'laws.FnEqualGainsGaps': WHATEVER THE INPUT: true; the input reads as it did. -/
def fnEqualGainsGapsSpec : ChangeSpec := { name := "fnEqualGainsGaps", fn := fun _ => fun
  | [d] => { results := [.lit (.bool true)], args := [d] }
  | _ => none }
def fnEqualGainsGapsRow : OpenClaim := { program := "ytojkgabkiagjdab", sum := "53a91b7ecb8d779c8a6b45350506f9c291ad8efc8cda27773622b9bc54290343", func := "loop.example/watershares/laws.FnEqualGainsGaps", spec := "fnEqualGainsGaps", apart := false }
def FnEqualGainsGapsSaid : Prop := fnEqualGainsGapsRow.holds Try.pinned (OpenSpec.ofChange fnEqualGainsGapsSpec)

/-- ITS FALSE NEIGHBOUR: 'it returns false'. Refute it at one input. -/
def fnEqualGainsGapsWrong : ChangeSpec := { name := "fnEqualGainsGaps", fn := fun _ => fun
  | [d] => { results := [.lit (.bool false)], args := [d] }
  | _ => none }
def FnEqualGainsGapsWrongFalsely : Prop := fnEqualGainsGapsRow.holds Try.pinned (OpenSpec.ofChange fnEqualGainsGapsWrong)

/-- 'laws.FnEqualGainsMore': WHATEVER THE INPUT: true; the input reads as it did. -/
def fnEqualGainsMoreSpec : ChangeSpec := { name := "fnEqualGainsMore", fn := fun _ => fun
  | [d] => { results := [.lit (.bool true)], args := [d] }
  | _ => none }
def fnEqualGainsMoreRow : OpenClaim := { program := "ytojkgabkiagjdab", sum := "53a91b7ecb8d779c8a6b45350506f9c291ad8efc8cda27773622b9bc54290343", func := "loop.example/watershares/laws.FnEqualGainsMore", spec := "fnEqualGainsMore", apart := false }
def FnEqualGainsMoreSaid : Prop := fnEqualGainsMoreRow.holds Try.pinned (OpenSpec.ofChange fnEqualGainsMoreSpec)

/-- ITS FALSE NEIGHBOUR: 'it returns false'. Refute it at one input. -/
def fnEqualGainsMoreWrong : ChangeSpec := { name := "fnEqualGainsMore", fn := fun _ => fun
  | [d] => { results := [.lit (.bool false)], args := [d] }
  | _ => none }
def FnEqualGainsMoreWrongFalsely : Prop := fnEqualGainsMoreRow.holds Try.pinned (OpenSpec.ofChange fnEqualGainsMoreWrong)

/-- 'laws.FnEqualLosses': WHATEVER THE INPUT: true; the input reads as it did. -/
def fnEqualLossesSpec : ChangeSpec := { name := "fnEqualLosses", fn := fun _ => fun
  | [d] => { results := [.lit (.bool true)], args := [d] }
  | _ => none }
def fnEqualLossesRow : OpenClaim := { program := "ytojkgabkiagjdab", sum := "53a91b7ecb8d779c8a6b45350506f9c291ad8efc8cda27773622b9bc54290343", func := "loop.example/watershares/laws.FnEqualLosses", spec := "fnEqualLosses", apart := false }
def FnEqualLossesSaid : Prop := fnEqualLossesRow.holds Try.pinned (OpenSpec.ofChange fnEqualLossesSpec)

/-- ITS FALSE NEIGHBOUR: 'it returns false'. Refute it at one input. -/
def fnEqualLossesWrong : ChangeSpec := { name := "fnEqualLosses", fn := fun _ => fun
  | [d] => { results := [.lit (.bool false)], args := [d] }
  | _ => none }
def FnEqualLossesWrongFalsely : Prop := fnEqualLossesRow.holds Try.pinned (OpenSpec.ofChange fnEqualLossesWrong)

/-- 'laws.FnEqualLossesNear': WHATEVER THE INPUT: true; the input reads as it did. -/
def fnEqualLossesNearSpec : ChangeSpec := { name := "fnEqualLossesNear", fn := fun _ => fun
  | [d] => { results := [.lit (.bool true)], args := [d] }
  | _ => none }
def fnEqualLossesNearRow : OpenClaim := { program := "ytojkgabkiagjdab", sum := "53a91b7ecb8d779c8a6b45350506f9c291ad8efc8cda27773622b9bc54290343", func := "loop.example/watershares/laws.FnEqualLossesNear", spec := "fnEqualLossesNear", apart := false }
def FnEqualLossesNearSaid : Prop := fnEqualLossesNearRow.holds Try.pinned (OpenSpec.ofChange fnEqualLossesNearSpec)

/-- ITS FALSE NEIGHBOUR: 'it returns false'. Refute it at one input. -/
def fnEqualLossesNearWrong : ChangeSpec := { name := "fnEqualLossesNear", fn := fun _ => fun
  | [d] => { results := [.lit (.bool false)], args := [d] }
  | _ => none }
def FnEqualLossesNearWrongFalsely : Prop := fnEqualLossesNearRow.holds Try.pinned (OpenSpec.ofChange fnEqualLossesNearWrong)

/-- 'laws.FnHalfFirst': WHATEVER THE INPUT: true; the input reads as it did. -/
def fnHalfFirstSpec : ChangeSpec := { name := "fnHalfFirst", fn := fun _ => fun
  | [d] => { results := [.lit (.bool true)], args := [d] }
  | _ => none }
def fnHalfFirstRow : OpenClaim := { program := "ytojkgabkiagjdab", sum := "53a91b7ecb8d779c8a6b45350506f9c291ad8efc8cda27773622b9bc54290343", func := "loop.example/watershares/laws.FnHalfFirst", spec := "fnHalfFirst", apart := false }
def FnHalfFirstSaid : Prop := fnHalfFirstRow.holds Try.pinned (OpenSpec.ofChange fnHalfFirstSpec)

/-- ITS FALSE NEIGHBOUR: 'it returns false'. Refute it at one input. -/
def fnHalfFirstWrong : ChangeSpec := { name := "fnHalfFirst", fn := fun _ => fun
  | [d] => { results := [.lit (.bool false)], args := [d] }
  | _ => none }
def FnHalfFirstWrongFalsely : Prop := fnHalfFirstRow.holds Try.pinned (OpenSpec.ofChange fnHalfFirstWrong)

/-- 'laws.FnHalfFirstTurned': WHATEVER THE INPUT: true; the input reads as it did. -/
def fnHalfFirstTurnedSpec : ChangeSpec := { name := "fnHalfFirstTurned", fn := fun _ => fun
  | [d] => { results := [.lit (.bool true)], args := [d] }
  | _ => none }
def fnHalfFirstTurnedRow : OpenClaim := { program := "ytojkgabkiagjdab", sum := "53a91b7ecb8d779c8a6b45350506f9c291ad8efc8cda27773622b9bc54290343", func := "loop.example/watershares/laws.FnHalfFirstTurned", spec := "fnHalfFirstTurned", apart := false }
def FnHalfFirstTurnedSaid : Prop := fnHalfFirstTurnedRow.holds Try.pinned (OpenSpec.ofChange fnHalfFirstTurnedSpec)

/-- ITS FALSE NEIGHBOUR: 'it returns false'. Refute it at one input. -/
def fnHalfFirstTurnedWrong : ChangeSpec := { name := "fnHalfFirstTurned", fn := fun _ => fun
  | [d] => { results := [.lit (.bool false)], args := [d] }
  | _ => none }
def FnHalfFirstTurnedWrongFalsely : Prop := fnHalfFirstTurnedRow.holds Try.pinned (OpenSpec.ofChange fnHalfFirstTurnedWrong)

/-- 'laws.FnHalfFirstTwo': WHATEVER THE INPUT: true; the input reads as it did. -/
def fnHalfFirstTwoSpec : ChangeSpec := { name := "fnHalfFirstTwo", fn := fun _ => fun
  | [d] => { results := [.lit (.bool true)], args := [d] }
  | _ => none }
def fnHalfFirstTwoRow : OpenClaim := { program := "ytojkgabkiagjdab", sum := "53a91b7ecb8d779c8a6b45350506f9c291ad8efc8cda27773622b9bc54290343", func := "loop.example/watershares/laws.FnHalfFirstTwo", spec := "fnHalfFirstTwo", apart := false }
def FnHalfFirstTwoSaid : Prop := fnHalfFirstTwoRow.holds Try.pinned (OpenSpec.ofChange fnHalfFirstTwoSpec)

/-- ITS FALSE NEIGHBOUR: 'it returns false'. Refute it at one input. -/
def fnHalfFirstTwoWrong : ChangeSpec := { name := "fnHalfFirstTwo", fn := fun _ => fun
  | [d] => { results := [.lit (.bool false)], args := [d] }
  | _ => none }
def FnHalfFirstTwoWrongFalsely : Prop := fnHalfFirstTwoRow.holds Try.pinned (OpenSpec.ofChange fnHalfFirstTwoWrong)

/-- 'laws.FnInTurn': WHATEVER THE INPUT: true; the input reads as it did. -/
def fnInTurnSpec : ChangeSpec := { name := "fnInTurn", fn := fun _ => fun
  | [d] => { results := [.lit (.bool true)], args := [d] }
  | _ => none }
def fnInTurnRow : OpenClaim := { program := "ytojkgabkiagjdab", sum := "53a91b7ecb8d779c8a6b45350506f9c291ad8efc8cda27773622b9bc54290343", func := "loop.example/watershares/laws.FnInTurn", spec := "fnInTurn", apart := false }
def FnInTurnSaid : Prop := fnInTurnRow.holds Try.pinned (OpenSpec.ofChange fnInTurnSpec)

/-- ITS FALSE NEIGHBOUR: 'it returns false'. Refute it at one input. -/
def fnInTurnWrong : ChangeSpec := { name := "fnInTurn", fn := fun _ => fun
  | [d] => { results := [.lit (.bool false)], args := [d] }
  | _ => none }
def FnInTurnWrongFalsely : Prop := fnInTurnRow.holds Try.pinned (OpenSpec.ofChange fnInTurnWrong)

/- THE SECOND FORM. 'bulk': how many values and letters a reading holds, each counted each time it is reached (what is shared counts as often as it is met; a slice's spare places count too). A statement '..UptoSaid' is the law's where the arguments, and the package variables that the reading takes, are together of bulk at most 1048576: NARROWER than '..Said'. Prove '..Said' where nothing that the law and all that it calls make is longer than what came in: it says more and counts as full. Else prove '..UptoSaid'. A law counts once. -/
mutual
def uptoBulk {H : Type} : DataW H → Nat
  | .lit (.string bytes) => bytes.length + 1
  | .lit _ => 1
  | .nil => 1
  | .ptr d => uptoBulk d + 1
  | .slice elems spare => uptoBulkAll elems + uptoBulkAll spare + 1
  | .agg parts => uptoBulkAll parts + 1
  | .iface _ d => uptoBulk d + 1
  | .map entries => uptoBulkEntries entries + 1
  | .held _ => 1
def uptoBulkAll {H : Type} : List (DataW H) → Nat
  | [] => 0
  | d :: r => uptoBulk d + uptoBulkAll r
def uptoBulkEntries {H : Type} : List (Lit × DataW H) → Nat
  | [] => 0
  | x :: r => uptoBulkEntry x + uptoBulkEntries r
def uptoBulkEntry {H : Type} : Lit × DataW H → Nat
  | (.string bytes, d) => bytes.length + uptoBulk d + 1
  | (_, d) => uptoBulk d + 1
 end
def uptoSmall : (H : Type) → List (DataW H) → Bool := fun _ ds => decide (uptoBulkAll ds ≤ 1048576)
def OpenSpec.upto (s : _root_.Go.ChangeSpec) : _root_.Go.OpenSpec := { _root_.Go.OpenSpec.ofChange s with cond := some uptoSmall }

/-- 'laws.FnValidClaims', WHERE WHAT IT READS IS OF BULK AT MOST 1048576: true; the input reads as it did. -/
def fnValidClaimsUptoRow : OpenClaim := { program := "ytojkgabkiagjdab", sum := "53a91b7ecb8d779c8a6b45350506f9c291ad8efc8cda27773622b9bc54290343", func := "loop.example/watershares/laws.FnValidClaims", spec := "fnValidClaims", apart := false, narrowed := true }
def FnValidClaimsUptoSaid : Prop := fnValidClaimsUptoRow.holds Try.pinned (OpenSpec.upto fnValidClaimsSpec)

/-- 'laws.FnEqualGains', WHERE WHAT IT READS IS OF BULK AT MOST 1048576: true; the input reads as it did. -/
def fnEqualGainsUptoRow : OpenClaim := { program := "ytojkgabkiagjdab", sum := "53a91b7ecb8d779c8a6b45350506f9c291ad8efc8cda27773622b9bc54290343", func := "loop.example/watershares/laws.FnEqualGains", spec := "fnEqualGains", apart := false, narrowed := true }
def FnEqualGainsUptoSaid : Prop := fnEqualGainsUptoRow.holds Try.pinned (OpenSpec.upto fnEqualGainsSpec)

/-- 'laws.FnEqualGainsGaps', WHERE WHAT IT READS IS OF BULK AT MOST 1048576: true; the input reads as it did. -/
def fnEqualGainsGapsUptoRow : OpenClaim := { program := "ytojkgabkiagjdab", sum := "53a91b7ecb8d779c8a6b45350506f9c291ad8efc8cda27773622b9bc54290343", func := "loop.example/watershares/laws.FnEqualGainsGaps", spec := "fnEqualGainsGaps", apart := false, narrowed := true }
def FnEqualGainsGapsUptoSaid : Prop := fnEqualGainsGapsUptoRow.holds Try.pinned (OpenSpec.upto fnEqualGainsGapsSpec)

/-- 'laws.FnEqualGainsMore', WHERE WHAT IT READS IS OF BULK AT MOST 1048576: true; the input reads as it did. -/
def fnEqualGainsMoreUptoRow : OpenClaim := { program := "ytojkgabkiagjdab", sum := "53a91b7ecb8d779c8a6b45350506f9c291ad8efc8cda27773622b9bc54290343", func := "loop.example/watershares/laws.FnEqualGainsMore", spec := "fnEqualGainsMore", apart := false, narrowed := true }
def FnEqualGainsMoreUptoSaid : Prop := fnEqualGainsMoreUptoRow.holds Try.pinned (OpenSpec.upto fnEqualGainsMoreSpec)

/-- 'laws.FnEqualLosses', WHERE WHAT IT READS IS OF BULK AT MOST 1048576: true; the input reads as it did. -/
def fnEqualLossesUptoRow : OpenClaim := { program := "ytojkgabkiagjdab", sum := "53a91b7ecb8d779c8a6b45350506f9c291ad8efc8cda27773622b9bc54290343", func := "loop.example/watershares/laws.FnEqualLosses", spec := "fnEqualLosses", apart := false, narrowed := true }
def FnEqualLossesUptoSaid : Prop := fnEqualLossesUptoRow.holds Try.pinned (OpenSpec.upto fnEqualLossesSpec)

/-- 'laws.FnEqualLossesNear', WHERE WHAT IT READS IS OF BULK AT MOST 1048576: true; the input reads as it did. -/
def fnEqualLossesNearUptoRow : OpenClaim := { program := "ytojkgabkiagjdab", sum := "53a91b7ecb8d779c8a6b45350506f9c291ad8efc8cda27773622b9bc54290343", func := "loop.example/watershares/laws.FnEqualLossesNear", spec := "fnEqualLossesNear", apart := false, narrowed := true }
def FnEqualLossesNearUptoSaid : Prop := fnEqualLossesNearUptoRow.holds Try.pinned (OpenSpec.upto fnEqualLossesNearSpec)

/-- 'laws.FnHalfFirst', WHERE WHAT IT READS IS OF BULK AT MOST 1048576: true; the input reads as it did. -/
def fnHalfFirstUptoRow : OpenClaim := { program := "ytojkgabkiagjdab", sum := "53a91b7ecb8d779c8a6b45350506f9c291ad8efc8cda27773622b9bc54290343", func := "loop.example/watershares/laws.FnHalfFirst", spec := "fnHalfFirst", apart := false, narrowed := true }
def FnHalfFirstUptoSaid : Prop := fnHalfFirstUptoRow.holds Try.pinned (OpenSpec.upto fnHalfFirstSpec)

/-- 'laws.FnHalfFirstTurned', WHERE WHAT IT READS IS OF BULK AT MOST 1048576: true; the input reads as it did. -/
def fnHalfFirstTurnedUptoRow : OpenClaim := { program := "ytojkgabkiagjdab", sum := "53a91b7ecb8d779c8a6b45350506f9c291ad8efc8cda27773622b9bc54290343", func := "loop.example/watershares/laws.FnHalfFirstTurned", spec := "fnHalfFirstTurned", apart := false, narrowed := true }
def FnHalfFirstTurnedUptoSaid : Prop := fnHalfFirstTurnedUptoRow.holds Try.pinned (OpenSpec.upto fnHalfFirstTurnedSpec)

/-- 'laws.FnHalfFirstTwo', WHERE WHAT IT READS IS OF BULK AT MOST 1048576: true; the input reads as it did. -/
def fnHalfFirstTwoUptoRow : OpenClaim := { program := "ytojkgabkiagjdab", sum := "53a91b7ecb8d779c8a6b45350506f9c291ad8efc8cda27773622b9bc54290343", func := "loop.example/watershares/laws.FnHalfFirstTwo", spec := "fnHalfFirstTwo", apart := false, narrowed := true }
def FnHalfFirstTwoUptoSaid : Prop := fnHalfFirstTwoUptoRow.holds Try.pinned (OpenSpec.upto fnHalfFirstTwoSpec)

/-- 'laws.FnInTurn', WHERE WHAT IT READS IS OF BULK AT MOST 1048576: true; the input reads as it did. -/
def fnInTurnUptoRow : OpenClaim := { program := "ytojkgabkiagjdab", sum := "53a91b7ecb8d779c8a6b45350506f9c291ad8efc8cda27773622b9bc54290343", func := "loop.example/watershares/laws.FnInTurn", spec := "fnInTurn", apart := false, narrowed := true }
def FnInTurnUptoSaid : Prop := fnInTurnUptoRow.holds Try.pinned (OpenSpec.upto fnInTurnSpec)

end Rows
end Go.Proofs.Ytojkgabkiagjdab
