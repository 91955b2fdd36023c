/-
  No cell of these rows narrows 'for every input' (looked for: loops, veiled, ifaces, maps, wideKeys, modest, calm, conditions, laid).
  DERIVED. THE GIVEN ROWS OF THIS SEAT. 8 by the template 'for every input the law returns true; each argument reads behind the call as it read before'; 0 by the template 'total and deterministic' (their statements: YtppnhhnilnikfaaTotals.lean).
  GIVEN WITH THE SEED: the statements are not yours to turn. If you find one false, say at which input.
  Laid BY PROGRAM, IN A SANDBOX (cutbox-rows.mjs): the forced cells as the released guide's own fill.sh prints them over the translation 7c6a728900929138… (all of the seat's roots in one cut). By AI agents, Wed Nov 11 2026. No macro, syntax, notation, axiom, sorry.
-/
import Derived.Test.YtppnhhnilnikfaaChecked
import GoSem.Claim
import GoSem.ClaimJoined
import GoSem.ClaimMapViews
import Derived.JoinedTies
import Derived.KernelRfl
namespace Go.Proofs.Ytppnhhnilnikfaa
/- THE CELL 'sum', in the pinned program and in every row, IS THE sha256 OF THE DUMP (.gsa) THAT YtppnhhnilnikfaaProg.lean LOADS. Nothing in Lean hashes anything: it is a label: what it is worth is what the hold of that sum in a sandbox is worth. -/
noncomputable def Try.pinned : Pinned := { name := "ytppnhhnilnikfaa", sum := "7c6a7289009291389cdf4c15b58e9e780e37523d06d60b030ee69d45b709a81a", checked := Try.checked }
namespace Rows
def none {H : Type} : Left H := { results := [], args := [] }

/-- 'laws.FnValidLedger': WHATEVER THE INPUT: true; the input reads as it did. -/
def fnValidLedgerSpec : ChangeSpec := { name := "fnValidLedger", fn := fun _ => fun
  | [d] => { results := [.lit (.bool true)], args := [d] }
  | _ => none }
def fnValidLedgerRow : OpenClaim := { program := "ytppnhhnilnikfaa", sum := "7c6a7289009291389cdf4c15b58e9e780e37523d06d60b030ee69d45b709a81a", func := "loop.example/watershares/laws.FnValidLedger", spec := "fnValidLedger", apart := false }
def FnValidLedgerSaid : Prop := fnValidLedgerRow.holds Try.pinned (OpenSpec.ofChange fnValidLedgerSpec)

/-- ITS FALSE NEIGHBOUR: 'it returns false'. Refute it at one input. -/
def fnValidLedgerWrong : ChangeSpec := { name := "fnValidLedger", fn := fun _ => fun
  | [d] => { results := [.lit (.bool false)], args := [d] }
  | _ => none }
def FnValidLedgerWrongFalsely : Prop := fnValidLedgerRow.holds Try.pinned (OpenSpec.ofChange fnValidLedgerWrong)

/-- 'laws.FnShareOf': WHATEVER THE INPUT: true; the input reads as it did. -/
def fnShareOfSpec : ChangeSpec := { name := "fnShareOf", fn := fun _ => fun
  | [d] => { results := [.lit (.bool true)], args := [d] }
  | _ => none }
def fnShareOfRow : OpenClaim := { program := "ytppnhhnilnikfaa", sum := "7c6a7289009291389cdf4c15b58e9e780e37523d06d60b030ee69d45b709a81a", func := "loop.example/watershares/laws.FnShareOf", spec := "fnShareOf", apart := false }
def FnShareOfSaid : Prop := fnShareOfRow.holds Try.pinned (OpenSpec.ofChange fnShareOfSpec)

/-- ITS FALSE NEIGHBOUR: 'it returns false'. Refute it at one input. -/
def fnShareOfWrong : ChangeSpec := { name := "fnShareOf", fn := fun _ => fun
  | [d] => { results := [.lit (.bool false)], args := [d] }
  | _ => none }
def FnShareOfWrongFalsely : Prop := fnShareOfRow.holds Try.pinned (OpenSpec.ofChange fnShareOfWrong)

/-- 'laws.FnSellShare': WHATEVER THE INPUT: true; the input reads as it did. -/
def fnSellShareSpec : ChangeSpec := { name := "fnSellShare", fn := fun _ => fun
  | [d] => { results := [.lit (.bool true)], args := [d] }
  | _ => none }
def fnSellShareRow : OpenClaim := { program := "ytppnhhnilnikfaa", sum := "7c6a7289009291389cdf4c15b58e9e780e37523d06d60b030ee69d45b709a81a", func := "loop.example/watershares/laws.FnSellShare", spec := "fnSellShare", apart := false }
def FnSellShareSaid : Prop := fnSellShareRow.holds Try.pinned (OpenSpec.ofChange fnSellShareSpec)

/-- ITS FALSE NEIGHBOUR: 'it returns false'. Refute it at one input. -/
def fnSellShareWrong : ChangeSpec := { name := "fnSellShare", fn := fun _ => fun
  | [d] => { results := [.lit (.bool false)], args := [d] }
  | _ => none }
def FnSellShareWrongFalsely : Prop := fnSellShareRow.holds Try.pinned (OpenSpec.ofChange fnSellShareWrong)

/-- 'laws.FnInheritShare': WHATEVER THE INPUT: true; the input reads as it did. -/
def fnInheritShareSpec : ChangeSpec := { name := "fnInheritShare", fn := fun _ => fun
  | [d] => { results := [.lit (.bool true)], args := [d] }
  | _ => none }
def fnInheritShareRow : OpenClaim := { program := "ytppnhhnilnikfaa", sum := "7c6a7289009291389cdf4c15b58e9e780e37523d06d60b030ee69d45b709a81a", func := "loop.example/watershares/laws.FnInheritShare", spec := "fnInheritShare", apart := false }
def FnInheritShareSaid : Prop := fnInheritShareRow.holds Try.pinned (OpenSpec.ofChange fnInheritShareSpec)

/-- ITS FALSE NEIGHBOUR: 'it returns false'. Refute it at one input. -/
def fnInheritShareWrong : ChangeSpec := { name := "fnInheritShare", fn := fun _ => fun
  | [d] => { results := [.lit (.bool false)], args := [d] }
  | _ => none }
def FnInheritShareWrongFalsely : Prop := fnInheritShareRow.holds Try.pinned (OpenSpec.ofChange fnInheritShareWrong)

/-- 'laws.FnInheritShareOne': WHATEVER THE INPUT: true; the input reads as it did. -/
def fnInheritShareOneSpec : ChangeSpec := { name := "fnInheritShareOne", fn := fun _ => fun
  | [d] => { results := [.lit (.bool true)], args := [d] }
  | _ => none }
def fnInheritShareOneRow : OpenClaim := { program := "ytppnhhnilnikfaa", sum := "7c6a7289009291389cdf4c15b58e9e780e37523d06d60b030ee69d45b709a81a", func := "loop.example/watershares/laws.FnInheritShareOne", spec := "fnInheritShareOne", apart := false }
def FnInheritShareOneSaid : Prop := fnInheritShareOneRow.holds Try.pinned (OpenSpec.ofChange fnInheritShareOneSpec)

/-- ITS FALSE NEIGHBOUR: 'it returns false'. Refute it at one input. -/
def fnInheritShareOneWrong : ChangeSpec := { name := "fnInheritShareOne", fn := fun _ => fun
  | [d] => { results := [.lit (.bool false)], args := [d] }
  | _ => none }
def FnInheritShareOneWrongFalsely : Prop := fnInheritShareOneRow.holds Try.pinned (OpenSpec.ofChange fnInheritShareOneWrong)

/-- 'laws.FnJoinShares': WHATEVER THE INPUT: true; the input reads as it did. -/
def fnJoinSharesSpec : ChangeSpec := { name := "fnJoinShares", fn := fun _ => fun
  | [d] => { results := [.lit (.bool true)], args := [d] }
  | _ => none }
def fnJoinSharesRow : OpenClaim := { program := "ytppnhhnilnikfaa", sum := "7c6a7289009291389cdf4c15b58e9e780e37523d06d60b030ee69d45b709a81a", func := "loop.example/watershares/laws.FnJoinShares", spec := "fnJoinShares", apart := false }
def FnJoinSharesSaid : Prop := fnJoinSharesRow.holds Try.pinned (OpenSpec.ofChange fnJoinSharesSpec)

/-- ITS FALSE NEIGHBOUR: 'it returns false'. Refute it at one input. -/
def fnJoinSharesWrong : ChangeSpec := { name := "fnJoinShares", fn := fun _ => fun
  | [d] => { results := [.lit (.bool false)], args := [d] }
  | _ => none }
def FnJoinSharesWrongFalsely : Prop := fnJoinSharesRow.holds Try.pinned (OpenSpec.ofChange fnJoinSharesWrong)

/-- 'laws.FnCommonDen': WHATEVER THE INPUT: true; the input reads as it did. -/
def fnCommonDenSpec : ChangeSpec := { name := "fnCommonDen", fn := fun _ => fun
  | [d] => { results := [.lit (.bool true)], args := [d] }
  | _ => none }
def fnCommonDenRow : OpenClaim := { program := "ytppnhhnilnikfaa", sum := "7c6a7289009291389cdf4c15b58e9e780e37523d06d60b030ee69d45b709a81a", func := "loop.example/watershares/laws.FnCommonDen", spec := "fnCommonDen", apart := false }
def FnCommonDenSaid : Prop := fnCommonDenRow.holds Try.pinned (OpenSpec.ofChange fnCommonDenSpec)

/-- ITS FALSE NEIGHBOUR: 'it returns false'. Refute it at one input. -/
def fnCommonDenWrong : ChangeSpec := { name := "fnCommonDen", fn := fun _ => fun
  | [d] => { results := [.lit (.bool false)], args := [d] }
  | _ => none }
def FnCommonDenWrongFalsely : Prop := fnCommonDenRow.holds Try.pinned (OpenSpec.ofChange fnCommonDenWrong)

/-- 'laws.FnUnitsOf': WHATEVER THE INPUT: true; the input reads as it did. -/
def fnUnitsOfSpec : ChangeSpec := { name := "fnUnitsOf", fn := fun _ => fun
  | [d] => { results := [.lit (.bool true)], args := [d] }
  | _ => none }
def fnUnitsOfRow : OpenClaim := { program := "ytppnhhnilnikfaa", sum := "7c6a7289009291389cdf4c15b58e9e780e37523d06d60b030ee69d45b709a81a", func := "loop.example/watershares/laws.FnUnitsOf", spec := "fnUnitsOf", apart := false }
def FnUnitsOfSaid : Prop := fnUnitsOfRow.holds Try.pinned (OpenSpec.ofChange fnUnitsOfSpec)

/-- ITS FALSE NEIGHBOUR: 'it returns false'. Refute it at one input. -/
def fnUnitsOfWrong : ChangeSpec := { name := "fnUnitsOf", fn := fun _ => fun
  | [d] => { results := [.lit (.bool false)], args := [d] }
  | _ => none }
def FnUnitsOfWrongFalsely : Prop := fnUnitsOfRow.holds Try.pinned (OpenSpec.ofChange fnUnitsOfWrong)

/- THE SECOND FORM. 'bulk': how many values and letters a reading holds, each counted each time it is reached (what is shared counts as often as it is met; a slice's spare places count too). A statement '..UptoSaid' is the law's where the arguments, and the package variables that the reading takes, are together of bulk at most 1048576: NARROWER than '..Said'. Prove '..Said' where nothing that the law and all that it calls make is longer than what came in: it says more and counts as full. Else prove '..UptoSaid'. A law counts once. -/
mutual
def uptoBulk {H : Type} : DataW H → Nat
  | .lit (.string bytes) => bytes.length + 1
  | .lit _ => 1
  | .nil => 1
  | .ptr d => uptoBulk d + 1
  | .slice elems spare => uptoBulkAll elems + uptoBulkAll spare + 1
  | .agg parts => uptoBulkAll parts + 1
  | .iface _ d => uptoBulk d + 1
  | .map entries => uptoBulkEntries entries + 1
  | .held _ => 1
def uptoBulkAll {H : Type} : List (DataW H) → Nat
  | [] => 0
  | d :: r => uptoBulk d + uptoBulkAll r
def uptoBulkEntries {H : Type} : List (Lit × DataW H) → Nat
  | [] => 0
  | x :: r => uptoBulkEntry x + uptoBulkEntries r
def uptoBulkEntry {H : Type} : Lit × DataW H → Nat
  | (.string bytes, d) => bytes.length + uptoBulk d + 1
  | (_, d) => uptoBulk d + 1
 end
def uptoSmall : (H : Type) → List (DataW H) → Bool := fun _ ds => decide (uptoBulkAll ds ≤ 1048576)
def OpenSpec.upto (s : _root_.Go.ChangeSpec) : _root_.Go.OpenSpec := { _root_.Go.OpenSpec.ofChange s with cond := some uptoSmall }

/-- 'laws.FnValidLedger', WHERE WHAT IT READS IS OF BULK AT MOST 1048576: true; the input reads as it did. -/
def fnValidLedgerUptoRow : OpenClaim := { program := "ytppnhhnilnikfaa", sum := "7c6a7289009291389cdf4c15b58e9e780e37523d06d60b030ee69d45b709a81a", func := "loop.example/watershares/laws.FnValidLedger", spec := "fnValidLedger", apart := false, narrowed := true }
def FnValidLedgerUptoSaid : Prop := fnValidLedgerUptoRow.holds Try.pinned (OpenSpec.upto fnValidLedgerSpec)

/-- 'laws.FnShareOf', WHERE WHAT IT READS IS OF BULK AT MOST 1048576: true; the input reads as it did. -/
def fnShareOfUptoRow : OpenClaim := { program := "ytppnhhnilnikfaa", sum := "7c6a7289009291389cdf4c15b58e9e780e37523d06d60b030ee69d45b709a81a", func := "loop.example/watershares/laws.FnShareOf", spec := "fnShareOf", apart := false, narrowed := true }
def FnShareOfUptoSaid : Prop := fnShareOfUptoRow.holds Try.pinned (OpenSpec.upto fnShareOfSpec)

/-- 'laws.FnSellShare', WHERE WHAT IT READS IS OF BULK AT MOST 1048576: true; the input reads as it did. -/
def fnSellShareUptoRow : OpenClaim := { program := "ytppnhhnilnikfaa", sum := "7c6a7289009291389cdf4c15b58e9e780e37523d06d60b030ee69d45b709a81a", func := "loop.example/watershares/laws.FnSellShare", spec := "fnSellShare", apart := false, narrowed := true }
def FnSellShareUptoSaid : Prop := fnSellShareUptoRow.holds Try.pinned (OpenSpec.upto fnSellShareSpec)

/-- 'laws.FnInheritShare', WHERE WHAT IT READS IS OF BULK AT MOST 1048576: true; the input reads as it did. -/
def fnInheritShareUptoRow : OpenClaim := { program := "ytppnhhnilnikfaa", sum := "7c6a7289009291389cdf4c15b58e9e780e37523d06d60b030ee69d45b709a81a", func := "loop.example/watershares/laws.FnInheritShare", spec := "fnInheritShare", apart := false, narrowed := true }
def FnInheritShareUptoSaid : Prop := fnInheritShareUptoRow.holds Try.pinned (OpenSpec.upto fnInheritShareSpec)

/-- 'laws.FnInheritShareOne', WHERE WHAT IT READS IS OF BULK AT MOST 1048576: true; the input reads as it did. -/
def fnInheritShareOneUptoRow : OpenClaim := { program := "ytppnhhnilnikfaa", sum := "7c6a7289009291389cdf4c15b58e9e780e37523d06d60b030ee69d45b709a81a", func := "loop.example/watershares/laws.FnInheritShareOne", spec := "fnInheritShareOne", apart := false, narrowed := true }
def FnInheritShareOneUptoSaid : Prop := fnInheritShareOneUptoRow.holds Try.pinned (OpenSpec.upto fnInheritShareOneSpec)

/-- 'laws.FnJoinShares', WHERE WHAT IT READS IS OF BULK AT MOST 1048576: true; the input reads as it did. -/
def fnJoinSharesUptoRow : OpenClaim := { program := "ytppnhhnilnikfaa", sum := "7c6a7289009291389cdf4c15b58e9e780e37523d06d60b030ee69d45b709a81a", func := "loop.example/watershares/laws.FnJoinShares", spec := "fnJoinShares", apart := false, narrowed := true }
def FnJoinSharesUptoSaid : Prop := fnJoinSharesUptoRow.holds Try.pinned (OpenSpec.upto fnJoinSharesSpec)

/-- 'laws.FnCommonDen', WHERE WHAT IT READS IS OF BULK AT MOST 1048576: true; the input reads as it did. -/
def fnCommonDenUptoRow : OpenClaim := { program := "ytppnhhnilnikfaa", sum := "7c6a7289009291389cdf4c15b58e9e780e37523d06d60b030ee69d45b709a81a", func := "loop.example/watershares/laws.FnCommonDen", spec := "fnCommonDen", apart := false, narrowed := true }
def FnCommonDenUptoSaid : Prop := fnCommonDenUptoRow.holds Try.pinned (OpenSpec.upto fnCommonDenSpec)

/-- 'laws.FnUnitsOf', WHERE WHAT IT READS IS OF BULK AT MOST 1048576: true; the input reads as it did. -/
def fnUnitsOfUptoRow : OpenClaim := { program := "ytppnhhnilnikfaa", sum := "7c6a7289009291389cdf4c15b58e9e780e37523d06d60b030ee69d45b709a81a", func := "loop.example/watershares/laws.FnUnitsOf", spec := "fnUnitsOf", apart := false, narrowed := true }
def FnUnitsOfUptoSaid : Prop := fnUnitsOfUptoRow.holds Try.pinned (OpenSpec.upto fnUnitsOfSpec)

end Rows
end Go.Proofs.Ytppnhhnilnikfaa
