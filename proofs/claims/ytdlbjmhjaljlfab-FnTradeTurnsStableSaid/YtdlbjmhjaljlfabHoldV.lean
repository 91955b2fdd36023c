/- impl.ValidLedger. Condition: at most 1048576 holdings. -/
import Derived.Test.YtdlbjmhjaljlfabHold
import Derived.Test.YtdlbjmhjaljlfabBlk
namespace Go.Proofs.Ytdlbjmhjaljlfab
open Go.RowKit

theorem inoShare (w : World) : Calls Try.prog 59 #[] w fun e w' => e = .returned (.agg #[.int .i64 0, .int .i64 1]) ∧ Below w.heap.size w w' := by
  go_enter Try.func59, Try.ntmps59
  go_wp2
  refine bodyPost_ret (v := .agg #[.int .i64 0, .int .i64 1]) (by simp [results, Try.results59, go_sem]) rfl ⟨rfl, by go_grown⟩

/-- a sum of fractions by impl.AddFrac, its value known -/
theorem iAddQ {an ad bn bd x y : Int} (w : World) (hb : (Wsh.vfB an ad && Wsh.vfB bn bd && Wsh.redB (an * bd + bn * ad) (ad * bd)) = true) (hx : Wsh.rn (an * bd + bn * ad) (ad * bd) = x) (hy : Wsh.rd (an * bd + bn * ad) (ad * bd) = y) :
    Calls Try.prog 60 #[.agg #[.int .i64 an, .int .i64 ad], .agg #[.int .i64 bn, .int .i64 bd]] w fun e w' => e = .returned (.tuple #[.agg #[.int .i64 x, .int .i64 y], .bool true]) ∧ Below w.heap.size w w' := by
  have := iAdd an ad bn bd w
  rw [hb, hx, hy] at this; exact this
theorem iAddN {an ad bn bd : Int} (w : World) (hb : (Wsh.vfB an ad && Wsh.vfB bn bd && Wsh.redB (an * bd + bn * ad) (ad * bd)) = false) :
    Calls Try.prog 60 #[.agg #[.int .i64 an, .int .i64 ad], .agg #[.int .i64 bn, .int .i64 bd]] w fun e w' => e = .returned (.tuple #[.agg #[.int .i64 0, .int .i64 0], .bool false]) ∧ Below w.heap.size w w' := by
  have := iAdd an ad bn bd w
  rw [hb] at this; exact this

theorem vl_no0 {hs : List Hd} (h : 12 < hs.length) : vlR hs = false := by unfold vlR; rw [decide_eq_false (by omega : ¬ hs.length ≤ 12)]; rfl
theorem vl_no1 {hs : List Hd} (h : ascB hs = false) : vlR hs = false := by unfold vlR; rw [h]; simp
theorem vl_no2 {hs : List Hd} {k : Nat} (hk : k < hs.length) (h : okS hs k = false) : vlR hs = false := by unfold vlR allS; rw [rng_no hk h]; simp
theorem vl_end {hs : List Hd} (h1 : hs.length ≤ 12) (h2 : ascB hs = true) (h3 : ∀ j, j < hs.length → okS hs j = true) : vlR hs = decide ((sumQ hs hs.length).num = ((sumQ hs hs.length).den : Int)) := by
  unfold vlR allS
  rw [decide_eq_true h1, h2, rng_yes h3, decide_eq_decide.2 one_iff]; rfl

theorem sum_fr {hs : List Hd} {k : Nat} (h : ∀ j, j < k → okS hs j = true) : frB (sumQ hs k) = true := by
  cases k with
  | zero => exact frB_zero
  | succ k => exact (okS_is (h k (by omega))).2
theorem cells_at {w wr : World} {g o : Nat} {hs : List Hd} (hc : ∀ i, i < hs.length → w.cell? ⟨g, o + i * 3, none⟩ = some (.int .i64 (hs.getD i hd0).1) ∧ w.cell? ⟨g, o + i * 3 + 1, none⟩ = some (.int .i64 (hs.getD i hd0).2.1) ∧ w.cell? ⟨g, o + i * 3 + 2, none⟩ = some (.int .i64 (hs.getD i hd0).2.2)) (hB : Below w.heap.size w wr) {k : Nat} (hk : k < hs.length) :
    wr.cell? ⟨g, o + k * 3, none⟩ = some (.int .i64 (hs.getD k hd0).1) ∧ wr.cell? ⟨g, o + k * 3 + 1, none⟩ = some (.int .i64 (hs.getD k hd0).2.1) ∧ wr.cell? ⟨g, o + k * 3 + 2, none⟩ = some (.int .i64 (hs.getD k hd0).2.2) := by
  obtain ⟨d0, d1, d2⟩ := hc k hk
  exact ⟨(hB.cell (p := ⟨g, _, none⟩) (World.block_lt_of_cell? w _ d0)).trans d0, (hB.cell (p := ⟨g, _, none⟩) (World.block_lt_of_cell? w _ d1)).trans d1, (hB.cell (p := ⟨g, _, none⟩) (World.block_lt_of_cell? w _ d2)).trans d2⟩

set_option maxHeartbeats 1000000 in
/-- impl.ValidLedger -/
theorem iVL (a : Option Addr) (cap : Nat) (hs : List Hd) (w : World) (h : IsHs w a hs) (hn : hs.length ≤ 1048576) :
    Calls Try.prog 29 #[.slice a hs.length cap] w fun e w' => e = .returned (.bool (vlR hs)) ∧ Below w.heap.size w w' := by
  by_cases h12 : 12 < hs.length
  · go_enter Try.func29, Try.ntmps29
    go_wp2_with fail
    go_ret
    exact ⟨ret_bool (vl_no0 h12).symm, by go_grown⟩
  have g12 : decide (12 < (hs.length : Int)) = false := by simp; omega
  cases ha : ascB hs with
  | false =>
    have HN := Lib.hid (vl_no1 ha)
    have IA := iasc a cap hs w h hn
    rw [ha] at IA
    clear ha
    go_enter Try.func29, Try.ntmps29
    go_wp2_with fail
    refine IA.mono ?_
    rintro e w1 ⟨rfl, hb⟩
    go_wp2_with fail
    go_ret
    exact ⟨ret_bool HN.out.symm, hb⟩
  | true =>
    have HA := Lib.hid ha
    have IA := iasc a cap hs w h hn
    rw [ha] at IA
    clear ha
    go_enter Try.func29, Try.ntmps29
    go_wp2_with fail
    refine IA.mono ?_
    rintro e w1 ⟨rfl, hb⟩
    clear IA
    go_wp2_with fail
    refine (inoShare _).mono ?_
    rintro e w2 ⟨rfl, hb2⟩
    have hB := bel_tr hb hb2
    obtain ⟨S, hS⟩ : ∃ S, S = w2.heap.size := ⟨_, rfl⟩
    have hSw : w.heap.size ≤ S := by rw [hS]; exact hB.size
    rcases h with rfl | ⟨g, o, rfl, hc⟩
    · go_wp2_with fail
      refine wp_loop_rounds 1 ?_
      rw [rounds_succ]
      go_wp2_with fail
      go_ret
      exact ⟨rfl, hB.alloc hB.size _⟩
    · have HC := Lib.hid hc
      clear hc
      go_wp2_with fail
      rw [← hS]
      have hB0 : Below w.heap.size w (w2.alloc (.cells #[.int .i64 0, .int .i64 1] 51)) := hB.alloc hB.size _
      have hS0 : Blk (w2.alloc (.cells #[.int .i64 0, .int .i64 1] 51)) S 51 #[.int .i64 0, .int .i64 1] := by rw [hS]; exact Blk.new _ _ _
      clear hS hb hb2
      go_loopw [19] (fun i wr => ∃ k : Nat, k ≤ hs.length ∧ i = .int .i64 k ∧ Hid (∀ j, j < k → okS hs j = true) ∧ Blk wr S 51 #[.int .i64 (sumQ hs k).num, .int .i64 ((sumQ hs k).den : Int)] ∧ Below w.heap.size w wr) (fun i _ => hs.length - (intOf i).toNat)
      case atStart => exact ⟨0, Nat.zero_le _, rfl, fun j hj => by omega, hS0, hB0⟩
      case round =>
        clear hB0 hS0 hB
        obtain ⟨k, hk, rfl, HK, hS, hB⟩ := hrel
        by_cases hlt : k < hs.length
        · obtain ⟨c0, c1, c2⟩ := cells_at HC.out hB hlt
          have n0 : (hs.getD k hd0).2.1 = 0 → vlR hs = false := fun e => vl_no2 hlt (okS_no (okF_no2 e))
          have n1 : Wsh.vfB (hs.getD k hd0).2.1 (hs.getD k hd0).2.2 = false → vlR hs = false := fun e => vl_no2 hlt (okS_no (okF_no1 e))
          have n2 : frB (sumQ hs (k + 1)) = false → vlR hs = false := fun e => vl_no2 hlt (okS_no2 e)
          have y2 : Wsh.vfB (hs.getD k hd0).2.1 (hs.getD k hd0).2.2 = true → (hs.getD k hd0).2.1 ≠ 0 → frB (sumQ hs (k + 1)) = true → ∀ j, j < k + 1 → okS hs j = true := fun a b c => rng_more HK.out (okS_yes (okF_yes a b) c)
          have sr := sum_red hlt
          have qf := q_vf (sum_fr HK.out)
          generalize hs.getD k hd0 = hh at c0 c1 c2 n0 n1 n2 y2 sr
          obtain ⟨x, n, d⟩ := hh
          dsimp only at c0 c1 c2 n0 n1 n2 y2 sr
          obtain ⟨s0, s1, s2, s3, s4⟩ := blk_two hS
          have N0 := Lib.hid n0
          have N1 := Lib.hid n1
          have N2 := Lib.hid n2
          have Y2 := Lib.hid y2
          have SR := Lib.hid sr
          have QF := Lib.hid qf
          have HS := Lib.hid hS
          have HB := Lib.hid hB
          clear n0 n1 n2 y2 sr qf hS hB
          by_cases hz : n = 0
          · have e : (n == 0) = true := by simpa using hz
            have HN := Lib.hid (N0.out hz)
            clear hz
            go_wp2_with fail
            go_ret
            exact ⟨ret_bool HN.out.symm, HB.out.alloc HB.out.size _⟩
          · have e : (n == 0) = false := by simpa using hz
            have HZ := Lib.hid hz
            clear hz
            cases hv : Wsh.vfB n d with
            | false =>
              have HN := Lib.hid (N1.out hv)
              have HV := Lib.hid hv
              clear hv
              go_wp2_with fail
              refine (iAddN _ (by rw [HV.out]; simp)).mono ?_
              rintro e w3 ⟨rfl, hb⟩
              go_wp2_with fail
              go_ret
              exact ⟨ret_bool HN.out.symm, (bel_tr (HB.out.alloc HB.out.size _) hb).alloc (bel_tr (HB.out.alloc HB.out.size _) hb).size _⟩
            | true =>
              obtain ⟨r1, r2, r3⟩ := SR.out hv
              cases hf : frB (sumQ hs (k + 1)) with
              | false =>
                have HN := Lib.hid (N2.out hf)
                have HR : Hid _ := r1.trans hf
                clear hv hf r1 r2 r3
                go_wp2_with fail
                refine (iAddN _ (by rw [HR.out]; simp)).mono ?_
                rintro e w3 ⟨rfl, hb⟩
                go_wp2_with fail
                go_ret
                exact ⟨ret_bool HN.out.symm, (bel_tr (HB.out.alloc HB.out.size _) hb).alloc (bel_tr (HB.out.alloc HB.out.size _) hb).size _⟩
              | true =>
                have HY := Lib.hid (Y2.out hv HZ.out hf)
                have HR := Lib.hid (r1.trans hf)
                have H2 := Lib.hid r2
                have H3 := Lib.hid r3
                have HV := Lib.hid hv
                clear hv hf r1 r2 r3
                go_wp2_with fail
                refine (iAddQ _ (by rw [QF.out, HV.out, HR.out]; rfl) H2.out H3.out).mono ?_
                rintro e w3 ⟨rfl, hb⟩
                have hB3 := bel_tr (HB.out.alloc HB.out.size _) hb
                have hS3 := (HS.out.alloc _).next hb
                obtain ⟨t0, t1, t2, t3, t4⟩ := blk_two hS3
                clear s0 s1 s2 s3 s4 c0 c1 c2
                go_wp2_with fail
                go_roundw
                case rel => exact ⟨k + 1, by omega, by go_num, HY.out, (hS3.two _ _).alloc _, ((hB3.setCell (by exact hSw) _).setCell (by exact hSw) _).alloc (by simpa using hB3.size) _⟩
                case measure => simp [intOf]; omega
        · obtain rfl : hs.length = k := by omega
          obtain ⟨s0, s1, s2, s3, s4⟩ := blk_two hS
          have HN := Lib.hid (vl_end (by omega) HA.out HK.out)
          generalize (sumQ hs hs.length).num = x at s0 HN
          generalize ((sumQ hs hs.length).den : Int) = y at s1 HN
          clear hS
          go_wp2_with fail
          go_ret
          exact ⟨ret_bool HN.out.symm, hB⟩
end Go.Proofs.Ytdlbjmhjaljlfab
