/- impl.reduced and spec.reduce return the reduced fraction. Conditions: the lower number is in 1..100000000, the upper one in -1000000000..1000000000 (spec.reduce: at least 0). -/
import Derived.Test.YtdlbjmhjaljlfabValid
namespace Go.Proofs.Ytdlbjmhjaljlfab
open Go.RowKit

/-- a fraction and whether there is one, as returned -/
abbrev frV (b : Bool) (x y : Int) : Value := .tuple #[.agg #[.int .i64 (Wsh.qn b x), .int .i64 (Wsh.qn b y)], .bool b]

theorem ret_frV {b : Bool} {n d x y x' y' : Int} (hb : Wsh.redB n d = b) (hx : x' = Wsh.qn b x) (hy : y' = Wsh.qn b y) :
    Ending.returned (.tuple #[.agg #[.int .i64 x', .int .i64 y'], .bool b]) = .returned (frV (Wsh.redB n d) x y) := by rw [hb, hx, hy]

theorem swal {n d : Int} {b : Bool} (h : Wsh.redB n d = b) (hn : 0 ≤ n) (hd : 0 < d) : Wsh.vfB (n / (Int.gcd n d : Int)) (d / (Int.gcd n d : Int)) = b := by
  have := Wsh.vfB_red n d hn hd
  unfold Wsh.rn Wsh.rd at this
  rw [this]; exact h

set_option maxHeartbeats 400000 in
/-- spec.reduce -/
theorem sred (n d : Int) (w : World) (hn : 0 ≤ n) (hn' : n ≤ 1000000000) (hd : 1 ≤ d) (hd' : d ≤ 100000000) :
    Calls Try.prog 52 #[.int .i64 n, .int .i64 d] w fun e w' => e = .returned (frV (Wsh.redB n d) (Wsh.rn n d) (Wsh.rd n d)) ∧ Below w.heap.size w w' := by
  have hg := Wsh.gcd_pos n d (by omega)
  obtain ⟨b0, b1⟩ := Wsh.rn_le n d (by omega)
  have b2 := Wsh.rd_le n d (by omega)
  have b3 := Wsh.rd_pos n d (by omega)
  unfold Wsh.rn at b0 b1
  unfold Wsh.rd at b2 b3
  have hg0 : ((Int.gcd n d : Int) == 0) = false := by simp; omega
  cases hr : Wsh.redB n d with
  | false =>
    have hv := swal hr hn (by omega)
    clear hr
    go_enter Try.func52, Try.ntmps52
    go_wp2_with fail
    refine (sgcd n d _ (by omega) (by omega) (by omega) (by omega)).mono ?_
    rintro e w' ⟨rfl, rfl⟩
    go_wp2_with fail
    go_region
    all_goals
      go_wp2_with fail
      refine (svalid _ _ _).mono ?_
      rintro e w1 ⟨rfl, hb⟩
      obtain ⟨hc, hf⟩ := bcell hb
      have hB : Below w.heap.size w w1 := bel_tr (by go_grown) hb
      have c0 := hc w.heap.size 0 (by simp; omega)
      have c1 := hc w.heap.size 1 (by simp; omega)
      have c2 := hc (w.heap.size + 1) 0 (by simp)
      have c3 := hc (w.heap.size + 1) 1 (by simp)
      have f0 := hf w.heap.size 0 (by simp; omega)
      have f1 := hf w.heap.size 1 (by simp; omega)
      simp [go_sem] at c0 c1 c2 c3 f0 f1
      clear hc hf hb
      go_wp2_with fail
      refine bodyPost_ret (v := .tuple #[.agg #[.int .i64 0, .int .i64 0], .bool false]) (by simp [results, Try.results52, go_sem, c0, c1]) rfl ⟨rfl, by go_grown⟩
  | true =>
    have hv := swal hr hn (by omega)
    clear hr
    go_enter Try.func52, Try.ntmps52
    go_wp2_with fail
    refine (sgcd n d _ (by omega) (by omega) (by omega) (by omega)).mono ?_
    rintro e w' ⟨rfl, rfl⟩
    go_wp2_with fail
    go_region
    all_goals
      go_wp2_with fail
      refine (svalid _ _ _).mono ?_
      rintro e w1 ⟨rfl, hb⟩
      obtain ⟨hc, hf⟩ := bcell hb
      have hB : Below w.heap.size w w1 := bel_tr (by go_grown) hb
      have c0 := hc w.heap.size 0 (by simp; omega)
      have c1 := hc w.heap.size 1 (by simp; omega)
      have c2 := hc (w.heap.size + 1) 0 (by simp)
      have c3 := hc (w.heap.size + 1) 1 (by simp)
      have f0 := hf w.heap.size 0 (by simp; omega)
      have f1 := hf w.heap.size 1 (by simp; omega)
      simp [go_sem] at c0 c1 c2 c3 f0 f1
      clear hc hf hb
      go_wp2_with fail
      refine bodyPost_ret (v := .tuple #[.agg #[.int .i64 (n / (Int.gcd n d : Int)), .int .i64 (d / (Int.gcd n d : Int))], .bool true]) (by simp [results, Try.results52, go_sem, c0, c1]) rfl ⟨rfl, by go_grown⟩
end Go.Proofs.Ytdlbjmhjaljlfab
