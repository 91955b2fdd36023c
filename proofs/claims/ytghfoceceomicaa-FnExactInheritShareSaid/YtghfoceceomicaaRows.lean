/-
  No cell of these rows narrows 'for every input' (looked for: loops, veiled, ifaces, maps, wideKeys, modest, calm, conditions, laid).
  DERIVED. THE GIVEN ROWS OF THIS SEAT. 12 by the template 'for every input the law returns true; each argument reads behind the call as it read before'; 0 by the template 'total and deterministic' (their statements: YtghfoceceomicaaTotals.lean).
  GIVEN WITH THE SEED: the statements are not yours to turn. If you find one false, say at which input.
  Laid BY PROGRAM, IN A SANDBOX (cutbox-rows.mjs): the forced cells as the released guide's own fill.sh prints them over the translation 6e181d00f03a4cef… (all of the seat's roots in one cut). By AI agents, Wed Nov 11 2026. No macro, syntax, notation, axiom, sorry.
-/
import Derived.Test.YtghfoceceomicaaChecked
import GoSem.Claim
import GoSem.ClaimJoined
import GoSem.ClaimMapViews
import Derived.JoinedTies
import Derived.KernelRfl
namespace Go.Proofs.Ytghfoceceomicaa
/- THE CELL 'sum', in the pinned program and in every row, IS THE sha256 OF THE DUMP (.gsa) THAT YtghfoceceomicaaProg.lean LOADS. Nothing in Lean hashes anything: it is a label: what it is worth is what the hold of that sum in a sandbox is worth. -/
noncomputable def Try.pinned : Pinned := { name := "ytghfoceceomicaa", sum := "6e181d00f03a4cef5ac029a4d1fcc50936eaa36046eb8235e4d2a2fca8d4852f", checked := Try.checked }
namespace Rows
def none {H : Type} : Left H := { results := [], args := [] }

/-- 'laws.FnExactValidLedger': WHATEVER THE INPUT: true; the input reads as it did. -/
def fnExactValidLedgerSpec : ChangeSpec := { name := "fnExactValidLedger", fn := fun _ => fun
  | [d] => { results := [.lit (.bool true)], args := [d] }
  | _ => none }
def fnExactValidLedgerRow : OpenClaim := { program := "ytghfoceceomicaa", sum := "6e181d00f03a4cef5ac029a4d1fcc50936eaa36046eb8235e4d2a2fca8d4852f", func := "loop.example/watershares/laws.FnExactValidLedger", spec := "fnExactValidLedger", apart := false }
def FnExactValidLedgerSaid : Prop := fnExactValidLedgerRow.holds Try.pinned (OpenSpec.ofChange fnExactValidLedgerSpec)

/-- ITS FALSE NEIGHBOUR: 'it returns false'. Refute it at one input. -/
def fnExactValidLedgerWrong : ChangeSpec := { name := "fnExactValidLedger", fn := fun _ => fun
  | [d] => { results := [.lit (.bool false)], args := [d] }
  | _ => none }
def FnExactValidLedgerWrongFalsely : Prop := fnExactValidLedgerRow.holds Try.pinned (OpenSpec.ofChange fnExactValidLedgerWrong)

/-- 'laws.FnExactShareOf': WHATEVER THE INPUT: true; the input reads as it did. -/
def fnExactShareOfSpec : ChangeSpec := { name := "fnExactShareOf", fn := fun _ => fun
  | [d1, d2] => { results := [.lit (.bool true)], args := [d1, d2] }
  | _ => none }
def fnExactShareOfRow : OpenClaim := { program := "ytghfoceceomicaa", sum := "6e181d00f03a4cef5ac029a4d1fcc50936eaa36046eb8235e4d2a2fca8d4852f", func := "loop.example/watershares/laws.FnExactShareOf", spec := "fnExactShareOf", apart := false }
def FnExactShareOfSaid : Prop := fnExactShareOfRow.holds Try.pinned (OpenSpec.ofChange fnExactShareOfSpec)

/-- ITS FALSE NEIGHBOUR: 'it returns false'. Refute it at one input. -/
def fnExactShareOfWrong : ChangeSpec := { name := "fnExactShareOf", fn := fun _ => fun
  | [d1, d2] => { results := [.lit (.bool false)], args := [d1, d2] }
  | _ => none }
def FnExactShareOfWrongFalsely : Prop := fnExactShareOfRow.holds Try.pinned (OpenSpec.ofChange fnExactShareOfWrong)

/-- 'laws.FnExactSellShare': WHATEVER THE INPUT: true; the input reads as it did. -/
def fnExactSellShareSpec : ChangeSpec := { name := "fnExactSellShare", fn := fun _ => fun
  | [d1, d2, d3, d4] => { results := [.lit (.bool true)], args := [d1, d2, d3, d4] }
  | _ => none }
def fnExactSellShareRow : OpenClaim := { program := "ytghfoceceomicaa", sum := "6e181d00f03a4cef5ac029a4d1fcc50936eaa36046eb8235e4d2a2fca8d4852f", func := "loop.example/watershares/laws.FnExactSellShare", spec := "fnExactSellShare", apart := false }
def FnExactSellShareSaid : Prop := fnExactSellShareRow.holds Try.pinned (OpenSpec.ofChange fnExactSellShareSpec)

/-- ITS FALSE NEIGHBOUR: 'it returns false'. Refute it at one input. -/
def fnExactSellShareWrong : ChangeSpec := { name := "fnExactSellShare", fn := fun _ => fun
  | [d1, d2, d3, d4] => { results := [.lit (.bool false)], args := [d1, d2, d3, d4] }
  | _ => none }
def FnExactSellShareWrongFalsely : Prop := fnExactSellShareRow.holds Try.pinned (OpenSpec.ofChange fnExactSellShareWrong)

/-- 'laws.FnExactInheritShare': WHATEVER THE INPUT: true; the input reads as it did. -/
def fnExactInheritShareSpec : ChangeSpec := { name := "fnExactInheritShare", fn := fun _ => fun
  | [d1, d2, d3] => { results := [.lit (.bool true)], args := [d1, d2, d3] }
  | _ => none }
def fnExactInheritShareRow : OpenClaim := { program := "ytghfoceceomicaa", sum := "6e181d00f03a4cef5ac029a4d1fcc50936eaa36046eb8235e4d2a2fca8d4852f", func := "loop.example/watershares/laws.FnExactInheritShare", spec := "fnExactInheritShare", apart := false }
def FnExactInheritShareSaid : Prop := fnExactInheritShareRow.holds Try.pinned (OpenSpec.ofChange fnExactInheritShareSpec)

/-- ITS FALSE NEIGHBOUR: 'it returns false'. Refute it at one input. -/
def fnExactInheritShareWrong : ChangeSpec := { name := "fnExactInheritShare", fn := fun _ => fun
  | [d1, d2, d3] => { results := [.lit (.bool false)], args := [d1, d2, d3] }
  | _ => none }
def FnExactInheritShareWrongFalsely : Prop := fnExactInheritShareRow.holds Try.pinned (OpenSpec.ofChange fnExactInheritShareWrong)

/-- 'laws.FnExactJoinShares': WHATEVER THE INPUT: true; the input reads as it did. -/
def fnExactJoinSharesSpec : ChangeSpec := { name := "fnExactJoinShares", fn := fun _ => fun
  | [d1, d2, d3] => { results := [.lit (.bool true)], args := [d1, d2, d3] }
  | _ => none }
def fnExactJoinSharesRow : OpenClaim := { program := "ytghfoceceomicaa", sum := "6e181d00f03a4cef5ac029a4d1fcc50936eaa36046eb8235e4d2a2fca8d4852f", func := "loop.example/watershares/laws.FnExactJoinShares", spec := "fnExactJoinShares", apart := false }
def FnExactJoinSharesSaid : Prop := fnExactJoinSharesRow.holds Try.pinned (OpenSpec.ofChange fnExactJoinSharesSpec)

/-- ITS FALSE NEIGHBOUR: 'it returns false'. Refute it at one input. -/
def fnExactJoinSharesWrong : ChangeSpec := { name := "fnExactJoinShares", fn := fun _ => fun
  | [d1, d2, d3] => { results := [.lit (.bool false)], args := [d1, d2, d3] }
  | _ => none }
def FnExactJoinSharesWrongFalsely : Prop := fnExactJoinSharesRow.holds Try.pinned (OpenSpec.ofChange fnExactJoinSharesWrong)

/-- 'laws.FnExactCommonDen': WHATEVER THE INPUT: true; the input reads as it did. -/
def fnExactCommonDenSpec : ChangeSpec := { name := "fnExactCommonDen", fn := fun _ => fun
  | [d] => { results := [.lit (.bool true)], args := [d] }
  | _ => none }
def fnExactCommonDenRow : OpenClaim := { program := "ytghfoceceomicaa", sum := "6e181d00f03a4cef5ac029a4d1fcc50936eaa36046eb8235e4d2a2fca8d4852f", func := "loop.example/watershares/laws.FnExactCommonDen", spec := "fnExactCommonDen", apart := false }
def FnExactCommonDenSaid : Prop := fnExactCommonDenRow.holds Try.pinned (OpenSpec.ofChange fnExactCommonDenSpec)

/-- ITS FALSE NEIGHBOUR: 'it returns false'. Refute it at one input. -/
def fnExactCommonDenWrong : ChangeSpec := { name := "fnExactCommonDen", fn := fun _ => fun
  | [d] => { results := [.lit (.bool false)], args := [d] }
  | _ => none }
def FnExactCommonDenWrongFalsely : Prop := fnExactCommonDenRow.holds Try.pinned (OpenSpec.ofChange fnExactCommonDenWrong)

/-- 'laws.FnExactUnitsOf': WHATEVER THE INPUT: true; the input reads as it did. -/
def fnExactUnitsOfSpec : ChangeSpec := { name := "fnExactUnitsOf", fn := fun _ => fun
  | [d] => { results := [.lit (.bool true)], args := [d] }
  | _ => none }
def fnExactUnitsOfRow : OpenClaim := { program := "ytghfoceceomicaa", sum := "6e181d00f03a4cef5ac029a4d1fcc50936eaa36046eb8235e4d2a2fca8d4852f", func := "loop.example/watershares/laws.FnExactUnitsOf", spec := "fnExactUnitsOf", apart := false }
def FnExactUnitsOfSaid : Prop := fnExactUnitsOfRow.holds Try.pinned (OpenSpec.ofChange fnExactUnitsOfSpec)

/-- ITS FALSE NEIGHBOUR: 'it returns false'. Refute it at one input. -/
def fnExactUnitsOfWrong : ChangeSpec := { name := "fnExactUnitsOf", fn := fun _ => fun
  | [d] => { results := [.lit (.bool false)], args := [d] }
  | _ => none }
def FnExactUnitsOfWrongFalsely : Prop := fnExactUnitsOfRow.holds Try.pinned (OpenSpec.ofChange fnExactUnitsOfWrong)

/-- 'laws.FnExactValidLeases': WHATEVER THE INPUT: true; the input reads as it did. -/
def fnExactValidLeasesSpec : ChangeSpec := { name := "fnExactValidLeases", fn := fun _ => fun
  | [d1, d2] => { results := [.lit (.bool true)], args := [d1, d2] }
  | _ => none }
def fnExactValidLeasesRow : OpenClaim := { program := "ytghfoceceomicaa", sum := "6e181d00f03a4cef5ac029a4d1fcc50936eaa36046eb8235e4d2a2fca8d4852f", func := "loop.example/watershares/laws.FnExactValidLeases", spec := "fnExactValidLeases", apart := false }
def FnExactValidLeasesSaid : Prop := fnExactValidLeasesRow.holds Try.pinned (OpenSpec.ofChange fnExactValidLeasesSpec)

/-- ITS FALSE NEIGHBOUR: 'it returns false'. Refute it at one input. -/
def fnExactValidLeasesWrong : ChangeSpec := { name := "fnExactValidLeases", fn := fun _ => fun
  | [d1, d2] => { results := [.lit (.bool false)], args := [d1, d2] }
  | _ => none }
def FnExactValidLeasesWrongFalsely : Prop := fnExactValidLeasesRow.holds Try.pinned (OpenSpec.ofChange fnExactValidLeasesWrong)

/-- 'laws.FnExactUsersAt': WHATEVER THE INPUT: true; the input reads as it did. -/
def fnExactUsersAtSpec : ChangeSpec := { name := "fnExactUsersAt", fn := fun _ => fun
  | [d1, d2, d3] => { results := [.lit (.bool true)], args := [d1, d2, d3] }
  | _ => none }
def fnExactUsersAtRow : OpenClaim := { program := "ytghfoceceomicaa", sum := "6e181d00f03a4cef5ac029a4d1fcc50936eaa36046eb8235e4d2a2fca8d4852f", func := "loop.example/watershares/laws.FnExactUsersAt", spec := "fnExactUsersAt", apart := false }
def FnExactUsersAtSaid : Prop := fnExactUsersAtRow.holds Try.pinned (OpenSpec.ofChange fnExactUsersAtSpec)

/-- ITS FALSE NEIGHBOUR: 'it returns false'. Refute it at one input. -/
def fnExactUsersAtWrong : ChangeSpec := { name := "fnExactUsersAt", fn := fun _ => fun
  | [d1, d2, d3] => { results := [.lit (.bool false)], args := [d1, d2, d3] }
  | _ => none }
def FnExactUsersAtWrongFalsely : Prop := fnExactUsersAtRow.holds Try.pinned (OpenSpec.ofChange fnExactUsersAtWrong)

/-- 'laws.FnExactFormatLedger': WHATEVER THE INPUT: true; the input reads as it did. -/
def fnExactFormatLedgerSpec : ChangeSpec := { name := "fnExactFormatLedger", fn := fun _ => fun
  | [d] => { results := [.lit (.bool true)], args := [d] }
  | _ => none }
def fnExactFormatLedgerRow : OpenClaim := { program := "ytghfoceceomicaa", sum := "6e181d00f03a4cef5ac029a4d1fcc50936eaa36046eb8235e4d2a2fca8d4852f", func := "loop.example/watershares/laws.FnExactFormatLedger", spec := "fnExactFormatLedger", recurses := true, apart := false }
def FnExactFormatLedgerSaid : Prop := fnExactFormatLedgerRow.holds Try.pinned (OpenSpec.ofChange fnExactFormatLedgerSpec)

/-- ITS FALSE NEIGHBOUR: 'it returns false'. Refute it at one input. -/
def fnExactFormatLedgerWrong : ChangeSpec := { name := "fnExactFormatLedger", fn := fun _ => fun
  | [d] => { results := [.lit (.bool false)], args := [d] }
  | _ => none }
def FnExactFormatLedgerWrongFalsely : Prop := fnExactFormatLedgerRow.holds Try.pinned (OpenSpec.ofChange fnExactFormatLedgerWrong)

/-- 'laws.FnExactParseLedger': WHATEVER THE INPUT: true; the input reads as it did. -/
def fnExactParseLedgerSpec : ChangeSpec := { name := "fnExactParseLedger", fn := fun _ => fun
  | [d] => { results := [.lit (.bool true)], args := [d] }
  | _ => none }
def fnExactParseLedgerRow : OpenClaim := { program := "ytghfoceceomicaa", sum := "6e181d00f03a4cef5ac029a4d1fcc50936eaa36046eb8235e4d2a2fca8d4852f", func := "loop.example/watershares/laws.FnExactParseLedger", spec := "fnExactParseLedger", recurses := true, apart := false }
def FnExactParseLedgerSaid : Prop := fnExactParseLedgerRow.holds Try.pinned (OpenSpec.ofChange fnExactParseLedgerSpec)

/-- ITS FALSE NEIGHBOUR: 'it returns false'. Refute it at one input. -/
def fnExactParseLedgerWrong : ChangeSpec := { name := "fnExactParseLedger", fn := fun _ => fun
  | [d] => { results := [.lit (.bool false)], args := [d] }
  | _ => none }
def FnExactParseLedgerWrongFalsely : Prop := fnExactParseLedgerRow.holds Try.pinned (OpenSpec.ofChange fnExactParseLedgerWrong)

/-- 'laws.FnExactRunDeeds': WHATEVER THE INPUT: true; the input reads as it did. -/
def fnExactRunDeedsSpec : ChangeSpec := { name := "fnExactRunDeeds", fn := fun _ => fun
  | [d1, d2] => { results := [.lit (.bool true)], args := [d1, d2] }
  | _ => none }
def fnExactRunDeedsRow : OpenClaim := { program := "ytghfoceceomicaa", sum := "6e181d00f03a4cef5ac029a4d1fcc50936eaa36046eb8235e4d2a2fca8d4852f", func := "loop.example/watershares/laws.FnExactRunDeeds", spec := "fnExactRunDeeds", apart := false }
def FnExactRunDeedsSaid : Prop := fnExactRunDeedsRow.holds Try.pinned (OpenSpec.ofChange fnExactRunDeedsSpec)

/-- ITS FALSE NEIGHBOUR: 'it returns false'. Refute it at one input. -/
def fnExactRunDeedsWrong : ChangeSpec := { name := "fnExactRunDeeds", fn := fun _ => fun
  | [d1, d2] => { results := [.lit (.bool false)], args := [d1, d2] }
  | _ => none }
def FnExactRunDeedsWrongFalsely : Prop := fnExactRunDeedsRow.holds Try.pinned (OpenSpec.ofChange fnExactRunDeedsWrong)

/- THE SECOND FORM. 'bulk': how many values and letters a reading holds, each counted each time it is reached (what is shared counts as often as it is met; a slice's spare places count too). A statement '..UptoSaid' is the law's where the arguments, and the package variables that the reading takes, are together of bulk at most 1048576: NARROWER than '..Said'. Prove '..Said' where nothing that the law and all that it calls make is longer than what came in: it says more and counts as full. Else prove '..UptoSaid'. A law counts once. -/
mutual
def uptoBulk {H : Type} : DataW H → Nat
  | .lit (.string bytes) => bytes.length + 1
  | .lit _ => 1
  | .nil => 1
  | .ptr d => uptoBulk d + 1
  | .slice elems spare => uptoBulkAll elems + uptoBulkAll spare + 1
  | .agg parts => uptoBulkAll parts + 1
  | .iface _ d => uptoBulk d + 1
  | .map entries => uptoBulkEntries entries + 1
  | .held _ => 1
def uptoBulkAll {H : Type} : List (DataW H) → Nat
  | [] => 0
  | d :: r => uptoBulk d + uptoBulkAll r
def uptoBulkEntries {H : Type} : List (Lit × DataW H) → Nat
  | [] => 0
  | x :: r => uptoBulkEntry x + uptoBulkEntries r
def uptoBulkEntry {H : Type} : Lit × DataW H → Nat
  | (.string bytes, d) => bytes.length + uptoBulk d + 1
  | (_, d) => uptoBulk d + 1
 end
def uptoSmall : (H : Type) → List (DataW H) → Bool := fun _ ds => decide (uptoBulkAll ds ≤ 1048576)
def OpenSpec.upto (s : _root_.Go.ChangeSpec) : _root_.Go.OpenSpec := { _root_.Go.OpenSpec.ofChange s with cond := some uptoSmall }

/-- 'laws.FnExactValidLedger', WHERE WHAT IT READS IS OF BULK AT MOST 1048576: true; the input reads as it did. -/
def fnExactValidLedgerUptoRow : OpenClaim := { program := "ytghfoceceomicaa", sum := "6e181d00f03a4cef5ac029a4d1fcc50936eaa36046eb8235e4d2a2fca8d4852f", func := "loop.example/watershares/laws.FnExactValidLedger", spec := "fnExactValidLedger", apart := false, narrowed := true }
def FnExactValidLedgerUptoSaid : Prop := fnExactValidLedgerUptoRow.holds Try.pinned (OpenSpec.upto fnExactValidLedgerSpec)

/-- 'laws.FnExactShareOf', WHERE WHAT IT READS IS OF BULK AT MOST 1048576: true; the input reads as it did. -/
def fnExactShareOfUptoRow : OpenClaim := { program := "ytghfoceceomicaa", sum := "6e181d00f03a4cef5ac029a4d1fcc50936eaa36046eb8235e4d2a2fca8d4852f", func := "loop.example/watershares/laws.FnExactShareOf", spec := "fnExactShareOf", apart := false, narrowed := true }
def FnExactShareOfUptoSaid : Prop := fnExactShareOfUptoRow.holds Try.pinned (OpenSpec.upto fnExactShareOfSpec)

/-- 'laws.FnExactSellShare', WHERE WHAT IT READS IS OF BULK AT MOST 1048576: true; the input reads as it did. -/
def fnExactSellShareUptoRow : OpenClaim := { program := "ytghfoceceomicaa", sum := "6e181d00f03a4cef5ac029a4d1fcc50936eaa36046eb8235e4d2a2fca8d4852f", func := "loop.example/watershares/laws.FnExactSellShare", spec := "fnExactSellShare", apart := false, narrowed := true }
def FnExactSellShareUptoSaid : Prop := fnExactSellShareUptoRow.holds Try.pinned (OpenSpec.upto fnExactSellShareSpec)

/-- 'laws.FnExactInheritShare', WHERE WHAT IT READS IS OF BULK AT MOST 1048576: true; the input reads as it did. -/
def fnExactInheritShareUptoRow : OpenClaim := { program := "ytghfoceceomicaa", sum := "6e181d00f03a4cef5ac029a4d1fcc50936eaa36046eb8235e4d2a2fca8d4852f", func := "loop.example/watershares/laws.FnExactInheritShare", spec := "fnExactInheritShare", apart := false, narrowed := true }
def FnExactInheritShareUptoSaid : Prop := fnExactInheritShareUptoRow.holds Try.pinned (OpenSpec.upto fnExactInheritShareSpec)

/-- 'laws.FnExactJoinShares', WHERE WHAT IT READS IS OF BULK AT MOST 1048576: true; the input reads as it did. -/
def fnExactJoinSharesUptoRow : OpenClaim := { program := "ytghfoceceomicaa", sum := "6e181d00f03a4cef5ac029a4d1fcc50936eaa36046eb8235e4d2a2fca8d4852f", func := "loop.example/watershares/laws.FnExactJoinShares", spec := "fnExactJoinShares", apart := false, narrowed := true }
def FnExactJoinSharesUptoSaid : Prop := fnExactJoinSharesUptoRow.holds Try.pinned (OpenSpec.upto fnExactJoinSharesSpec)

/-- 'laws.FnExactCommonDen', WHERE WHAT IT READS IS OF BULK AT MOST 1048576: true; the input reads as it did. -/
def fnExactCommonDenUptoRow : OpenClaim := { program := "ytghfoceceomicaa", sum := "6e181d00f03a4cef5ac029a4d1fcc50936eaa36046eb8235e4d2a2fca8d4852f", func := "loop.example/watershares/laws.FnExactCommonDen", spec := "fnExactCommonDen", apart := false, narrowed := true }
def FnExactCommonDenUptoSaid : Prop := fnExactCommonDenUptoRow.holds Try.pinned (OpenSpec.upto fnExactCommonDenSpec)

/-- 'laws.FnExactUnitsOf', WHERE WHAT IT READS IS OF BULK AT MOST 1048576: true; the input reads as it did. -/
def fnExactUnitsOfUptoRow : OpenClaim := { program := "ytghfoceceomicaa", sum := "6e181d00f03a4cef5ac029a4d1fcc50936eaa36046eb8235e4d2a2fca8d4852f", func := "loop.example/watershares/laws.FnExactUnitsOf", spec := "fnExactUnitsOf", apart := false, narrowed := true }
def FnExactUnitsOfUptoSaid : Prop := fnExactUnitsOfUptoRow.holds Try.pinned (OpenSpec.upto fnExactUnitsOfSpec)

/-- 'laws.FnExactValidLeases', WHERE WHAT IT READS IS OF BULK AT MOST 1048576: true; the input reads as it did. -/
def fnExactValidLeasesUptoRow : OpenClaim := { program := "ytghfoceceomicaa", sum := "6e181d00f03a4cef5ac029a4d1fcc50936eaa36046eb8235e4d2a2fca8d4852f", func := "loop.example/watershares/laws.FnExactValidLeases", spec := "fnExactValidLeases", apart := false, narrowed := true }
def FnExactValidLeasesUptoSaid : Prop := fnExactValidLeasesUptoRow.holds Try.pinned (OpenSpec.upto fnExactValidLeasesSpec)

/-- 'laws.FnExactUsersAt', WHERE WHAT IT READS IS OF BULK AT MOST 1048576: true; the input reads as it did. -/
def fnExactUsersAtUptoRow : OpenClaim := { program := "ytghfoceceomicaa", sum := "6e181d00f03a4cef5ac029a4d1fcc50936eaa36046eb8235e4d2a2fca8d4852f", func := "loop.example/watershares/laws.FnExactUsersAt", spec := "fnExactUsersAt", apart := false, narrowed := true }
def FnExactUsersAtUptoSaid : Prop := fnExactUsersAtUptoRow.holds Try.pinned (OpenSpec.upto fnExactUsersAtSpec)

/-- 'laws.FnExactFormatLedger', WHERE WHAT IT READS IS OF BULK AT MOST 1048576: true; the input reads as it did. -/
def fnExactFormatLedgerUptoRow : OpenClaim := { program := "ytghfoceceomicaa", sum := "6e181d00f03a4cef5ac029a4d1fcc50936eaa36046eb8235e4d2a2fca8d4852f", func := "loop.example/watershares/laws.FnExactFormatLedger", spec := "fnExactFormatLedger", recurses := true, apart := false, narrowed := true }
def FnExactFormatLedgerUptoSaid : Prop := fnExactFormatLedgerUptoRow.holds Try.pinned (OpenSpec.upto fnExactFormatLedgerSpec)

/-- 'laws.FnExactParseLedger', WHERE WHAT IT READS IS OF BULK AT MOST 1048576: true; the input reads as it did. -/
def fnExactParseLedgerUptoRow : OpenClaim := { program := "ytghfoceceomicaa", sum := "6e181d00f03a4cef5ac029a4d1fcc50936eaa36046eb8235e4d2a2fca8d4852f", func := "loop.example/watershares/laws.FnExactParseLedger", spec := "fnExactParseLedger", recurses := true, apart := false, narrowed := true }
def FnExactParseLedgerUptoSaid : Prop := fnExactParseLedgerUptoRow.holds Try.pinned (OpenSpec.upto fnExactParseLedgerSpec)

/-- 'laws.FnExactRunDeeds', WHERE WHAT IT READS IS OF BULK AT MOST 1048576: true; the input reads as it did. -/
def fnExactRunDeedsUptoRow : OpenClaim := { program := "ytghfoceceomicaa", sum := "6e181d00f03a4cef5ac029a4d1fcc50936eaa36046eb8235e4d2a2fca8d4852f", func := "loop.example/watershares/laws.FnExactRunDeeds", spec := "fnExactRunDeeds", apart := false, narrowed := true }
def FnExactRunDeedsUptoSaid : Prop := fnExactRunDeedsUptoRow.holds Try.pinned (OpenSpec.upto fnExactRunDeedsSpec)

end Rows
end Go.Proofs.Ytghfoceceomicaa
