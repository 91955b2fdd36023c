/- MakeFrac and PartOf, impl's and spec's, and the laws' own copies and comparisons of fractions. No condition. -/
import Derived.Test.YtppnhhnilnikfaaFrac
namespace Go.Proofs.Ytppnhhnilnikfaa
open Go.RowKit


set_option maxHeartbeats 400000 in
/-- impl.MakeFrac -/
theorem iMake (n d : Int) (w : World) :
    Calls Try.prog 38 #[.int .i64 n, .int .i64 d] w fun e w' => e = .returned (frV (Wsh.mkB d && Wsh.redB n d) (Wsh.rn n d) (Wsh.rd n d)) ∧ Below w.heap.size w w' := by
  by_cases h1 : d < 1
  · go_enter Try.func38, Try.ntmps38
    go_wp2
    go_returns
    exact ⟨by rw [Wsh.mkB_no (d := d) (by omega)]; rfl, by go_grown⟩
  · by_cases h2 : 1000000 < d
    · go_enter Try.func38, Try.ntmps38
      go_wp2
      go_returns
      exact ⟨by rw [Wsh.mkB_no (d := d) (by omega)]; rfl, by go_grown⟩
    · go_enter Try.func38, Try.ntmps38
      go_wp2_with fail
      refine (ired n d _ (by omega) (by omega)).mono ?_
      rintro e w1 ⟨rfl, hb⟩
      have hB : Below w.heap.size w w1 := bel_tr (by go_grown) hb
      obtain ⟨hc, hf⟩ := bcell hb
      have c0 := hc (w.heap.size) 0 (by simp <;> omega)
      have c1 := hc (w.heap.size) 1 (by simp <;> omega)
      have f0 := hf (w.heap.size) 0 (by simp <;> omega)
      have f1 := hf (w.heap.size) 1 (by simp <;> omega)
      simp [go_sem] at c0 c1 f0 f1
      clear hc hf hb
      go_wp2_with fail
      refine bodyPost_ret (v := .tuple #[.agg #[.int .i64 (Wsh.qn (Wsh.redB n d) (Wsh.rn n d)), .int .i64 (Wsh.qn (Wsh.redB n d) (Wsh.rd n d))], .bool (Wsh.redB n d)]) (by simp [results, Try.results38, go_sem, c0, c1]) rfl ⟨by rw [Wsh.mkB_yes (d := d) (by omega)]; rfl, by go_grown⟩

end Go.Proofs.Ytppnhhnilnikfaa
