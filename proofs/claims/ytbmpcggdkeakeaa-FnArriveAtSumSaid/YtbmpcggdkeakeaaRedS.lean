/- impl.reduced and spec.reduce return the reduced fraction. Conditions: the lower number is in 1..100000000, the upper one in -1000000000..1000000000 (spec.reduce: at least 0). -/
import Derived.Test.YtbmpcggdkeakeaaValid
namespace Go.Proofs.Ytbmpcggdkeakeaa
open Go.RowKit

/-- a fraction and whether there is one, as returned -/
abbrev frV (b : Bool) (x y : Int) : Value := .tuple #[.agg #[.int .i64 (Wsh.qn b x), .int .i64 (Wsh.qn b y)], .bool b]

theorem ret_frV {b : Bool} {n d x y x' y' : Int} (hb : Wsh.redB n d = b) (hx : x' = Wsh.qn b x) (hy : y' = Wsh.qn b y) :
    Ending.returned (.tuple #[.agg #[.int .i64 x', .int .i64 y'], .bool b]) = .returned (frV (Wsh.redB n d) x y) := by rw [hb, hx, hy]

theorem swal {n d : Int} {b : Bool} (h : Wsh.redB n d = b) (hn : 0 ≤ n) (hd : 0 < d) : Wsh.vfB (n / (Int.gcd n d : Int)) (d / (Int.gcd n d : Int)) = b := by
  have := Wsh.vfB_red n d hn hd
  unfold Wsh.rn Wsh.rd at this
  rw [this]; exact h

end Go.Proofs.Ytbmpcggdkeakeaa
