/- SplitByMiddle in one contract. Condition: at most 1048576 weights. -/
import Derived.Test.YtigapnbpgbfbhabAvg
import Derived.Test.YtigapnbpgbfbhabGrA
namespace Go.Proofs.Ytigapnbpgbfbhab
open Go.RowKit
set_option linter.unusedSimpArgs false
set_option linter.unusedVariables false
theorem row_own {w : World} {base g : Nat} {zs : List Int} (h : Row w g zs) (hb : base ≤ g) (hn : zs.length ≤ 1048576) : OwnI w base (.slice (some ⟨g, 0, none⟩) zs.length zs.length) zs :=
  OwnI.of_row h rfl (fun j hj => rfl) hb hn
/-- impl.SplitByMiddle, whatever the weights -/
theorem imidV (n : Int) (a : Option Addr) (cap : Nat) (ws : List Int) (w : World) (h : IsInts w a ws) (hn : ws.length ≤ 1048576) :
    Calls Try.prog 18 #[.int .i64 n, .slice a ws.length cap] w (OutI w (if csB n ws = true then sa 2 n ws else [])) := by
  by_cases hc : csB n ws = true
  · rw [if_pos hc]
    refine (imiddle n a cap ws w h hn hc).mono ?_
    rintro e w' ⟨g, rfl, hg, hr, hB⟩
    have := row_own hr hg (by rw [sa_len]; exact hn)
    rw [sa_len] at this
    exact ⟨_, rfl, this, hB⟩
  · rw [if_neg hc]
    refine (imiddle_no n a cap ws w h hn (by simpa using hc)).mono ?_
    rintro e w' ⟨rfl, rfl⟩
    exact outI_nil (Below.refl _ _)
end Go.Proofs.Ytigapnbpgbfbhab
