/- The program's owners by the hour; its answers on rotations. Condition: at most 1048576 turns. -/
import Derived.Test.YtgmmdpdlekpmfaaTurnI
namespace Go.Proofs.Ytgmmdpdlekpmfaa
open Go.RowKit
set_option linter.unusedSimpArgs false
set_option linter.unusedVariables false

theorem itime_yes (n : Int) (w : World) (h1 : 0 ≤ n) (h2 : n ≤ 5000) :
    Calls Try.prog 55 #[.int .i64 n] w fun e w' => e = .returned (.bool true) ∧ w = w' := by
  go_enter Try.func55, Try.ntmps55
  go_wp2
  go_ret
  exact ⟨rfl, rfl⟩
theorem itime_no (n : Int) (w : World) (h : n < 0 ∨ 5000 < n) :
    Calls Try.prog 55 #[.int .i64 n] w fun e w' => e = .returned (.bool false) ∧ w = w' := by
  by_cases h1 : 0 ≤ n
  · have hd : decide (n ≤ 5000) = false := by simp; omega
    clear h
    go_enter Try.func55, Try.ntmps55
    go_wp2
    go_ret
    exact ⟨rfl, rfl⟩
  · have hd : decide (0 ≤ n) = false := by simpa using h1
    clear h
    go_enter Try.func55, Try.ntmps55
    go_wp2
    go_ret
    exact ⟨rfl, rfl⟩
theorem sumT_le {ts : List Tn} (hp : ∀ j, j < ts.length → 0 ≤ (ts.getD j tn0).2) : ∀ {k : Nat}, k < ts.length → sumT (ts.take (k + 1)) ≤ sumT ts := by
  intro k hk
  obtain ⟨m, hm⟩ : ∃ m, ts.length - (k + 1) = m := ⟨_, rfl⟩
  induction m generalizing k with
  | zero => rw [show k + 1 = ts.length from by omega, sumT_all]; exact Int.le_refl _
  | succ m ih =>
    have a := ih (k := k + 1) (by omega) (by omega)
    have b := hp (k + 1) (by omega)
    rw [sumT_succ (by omega)] at a
    omega
/-- the owners written before the time t -/
def upTo (ts : List Tn) (t : Int) : Nat → Value := fun j => if (j : Int) < t then .int .i64 (whoT ts (j : Int)) else .int .i64 0

set_option maxHeartbeats 4000000 in
/-- impl.ownersByHour -/
theorem iowners (a : Option Addr) (cap : Nat) (ts : List Tn) (w : World) (h : IsTn w a ts) (hv : vtB ts = true) :
    Calls Try.prog 76 #[.slice a ts.length cap] w fun e w' => ∃ g : Nat, e = .returned (.slice (some ⟨g, 0, none⟩) (sumT ts).toNat (sumT ts).toNat) ∧ w.heap.size ≤ g ∧ Row w' g (ownT ts) ∧ Below w.heap.size w w' := by
  obtain ⟨l1, l24, ho, s1, s2⟩ := vt_is hv
  obtain ⟨N, hN⟩ : ∃ N : Nat, sumT ts = (N : Int) := ⟨_, (Int.toNat_of_nonneg (by omega)).symm⟩
  have hNt : (sumT ts).toNat = N := by omega
  have hol : (ownT ts).length = N := by rw [ownT_len, hNt]
  rw [hNt]
  have HS := Lib.hid h
  rcases h with rfl | ⟨g, o, rfl, hc⟩
  · simp at l1
  have HC := Lib.hid hc
  have HO := Lib.hid ho
  have HL := Lib.hid hol
  have HT := Lib.hid hNt
  have HP : Hid (∀ j, j < ts.length → 0 ≤ (ts.getD j tn0).2) := fun j hj => (vt_hz ho j hj).1
  have IH := fun W hW => ihours (some ⟨g, o, none⟩) cap ts W hW (by omega) (vt_hz ho)
  rw [hN] at IH
  have HN := Lib.hid hN
  have n1 : N ≤ 336 := by omega
  have n0 : 1 ≤ N := by omega
  have hmk := run_make_row' (P := Try.prog) 105 3 (.int .i64 0) 8 Try.underlying105 infoInt rfl .i64 .i64 N (by omega) (by omega)
  clear hc ho hol hNt hN s1 s2
  go_enter Try.func76, Try.ntmps76
  go_wp2_with fail
  refine (IH _ HS.out).mono ?_
  rintro e w1 ⟨rfl, C⟩
  clear IH
  have B0 := C
  clear C
  go_wp2_with fail
  clear hmk
  have hS : w.heap.size ≤ w1.heap.size := B0.size
  have hrow0 : (w1.alloc (.cells (madeCells #[.int .i64 0] N) 3)).rowIs w1.heap.size 3 N (upTo ts 0) := (World.rowIs_made w1 (.int .i64 0) N _).congr (fun i hi => by unfold upTo; rw [if_neg (by omega)])
  have hB0 := B0.alloc B0.size (.cells (madeCells #[.int .i64 0] N) 3)
  clear B0
  go_loopw [4, 13] (fun t i wr => ∃ k p : Nat, k ≤ ts.length ∧ i = .int .i64 k ∧ t = .int .i64 p ∧ Hid (sumT (ts.take k) = (p : Int)) ∧ wr.rowIs w1.heap.size 3 N (upTo ts p) ∧ Below w.heap.size w wr) (fun _ i _ => ts.length - (intOf i).toNat)
  case atStart => exact ⟨0, 0, Nat.zero_le _, rfl, rfl, rfl, hrow0, hB0⟩
  case round =>
    obtain ⟨k, p, hk, rfl, rfl, hp, hrow, hB⟩ := hrel
    clear hrow0 hB0
    by_cases hlt : k < ts.length
    · obtain ⟨c0, c1⟩ := tn_at HC.out hB hlt
      have ok := (okT_iff ts k).1 (HO.out k hlt)
      have hs := sumT_succ hlt
      have hidx : Hid (∀ q : Nat, p ≤ q → (q : Int) < p + (ts.getD k tn0).2 → whoT ts (q : Int) = (ts.getD k tn0).1) := fun q h1 h2 => by
        have e := idx_at k ts q hlt HP.out (by rw [hp.out]; omega) (by rw [hs, hp.out]; exact h2)
        unfold whoT; rw [e]
      have hle : (p : Int) + (ts.getD k tn0).2 ≤ N := by
        rw [← hp.out, ← hs, ← HN.out]; exact sumT_le HP.out hlt
      rw [hp.out] at hs
      generalize ts.getD k tn0 = hh at c0 c1 hs hidx hle ok
      obtain ⟨x, y⟩ := hh
      dsimp only at c0 c1 hs hidx hle ok
      have y0 : 1 ≤ y := ok.2.2.1
      have y1 : y ≤ 336 := ok.2.2.2
      have HS2 := Lib.hid hs
      have HB := Lib.hid hB
      have hlw := World.rowIs.lt hrow
      have HR := Lib.hid hrow
      clear hs hB hrow ok
      go_wp2_with fail
      have K0 : Blk (wr.alloc (.cells #[.int .i64 x, .int .i64 y] 99)) wr.heap.size 99 #[.int .i64 x, .int .i64 y] := Blk.new _ _ _
      have hneS : w1.heap.size ≠ wr.heap.size := by omega
      have hrow1 := World.rowIs.of_block HR.out (Below.heap_alloc wr (.cells #[.int .i64 x, .int .i64 y] 99) w1.heap.size hlw)
      have hB1 := HB.out.alloc HB.out.size (.cells #[.int .i64 x, .int .i64 y] 99)
      have hB1' : Hid (Below w.heap.size w (wr.alloc (.cells #[.int .i64 x, .int .i64 y] 99))) := hB1
      clear hB1 c0 c1
      go_loopw [4, 7] (fun t l wi => ∃ q : Nat, p ≤ q ∧ (q : Int) ≤ p + y ∧ t = .int .i64 q ∧ l = .int .i64 (p + y - q) ∧ wi.rowIs w1.heap.size 3 N (upTo ts q) ∧ Blk wi wr.heap.size 99 #[.int .i64 x, .int .i64 y] ∧ Below w.heap.size w wi) (fun _ l _ => (intOf l).toNat)
      case atStart => exact ⟨p, Nat.le_refl _, by omega, rfl, by rw [show (p : Int) + y - p = y from by omega], hrow1, K0, hB1'.out⟩
      case round =>
        obtain ⟨q, hq0, hq1, rfl, rfl, hrow, hK, hB⟩ := hrel
        clear hrow1 K0
        by_cases hlq : (q : Int) < p + y
        · have hqN : q < N := by omega
          have hd : wr.cell? ⟨w1.heap.size, q, none⟩ = some (.int .i64 0) := by rw [hrow.cell hqN]; unfold upTo; rw [if_neg (by omega)]
          have hf := hrow.frozen q
          have k0 := hK.cell 0
          dsimp at k0
          have hcon : (wr.setCell ⟨w1.heap.size, q, none⟩ (.int .i64 x)).rowIs w1.heap.size 3 N (upTo ts ((q + 1 : Nat) : Int)) := (hrow.set q (.int .i64 x)).congr (fun j hj => by
            show (if j = q then Value.int .i64 x else upTo ts q j) = upTo ts ((q + 1 : Nat) : Int) j
            unfold upTo
            by_cases e : j = q
            · subst e; rw [if_pos rfl, if_pos (by omega), hidx.out j hq0 hlq]
            · rw [if_neg e]
              by_cases e2 : (j : Int) < q
              · rw [if_pos e2, if_pos (by omega)]
              · rw [if_neg e2, if_neg (by omega)])
          have hK2 : Hid (Blk (wr.setCell ⟨w1.heap.size, q, none⟩ (.int .i64 x)) _ 99 #[.int .i64 x, .int .i64 y]) := hK.far (fun e => hneS e.symm) _
          have HR := Lib.hid hcon
          have HB2 : Hid (Below w.heap.size w (wr.setCell ⟨w1.heap.size, q, none⟩ (.int .i64 x))) := hB.setCell hS _
          have i0 : (0 : Int) ≤ (q : Int) := by omega
          have i1 : (q : Int) < (N : Int) := by omega
          have i2 : 0 < (p : Int) + y - q := by omega
          clear hcon hrow hB hK
          go_wp2
          go_roundw
          case rel => exact ⟨q + 1, by omega, by omega, by go_num, by rw [show (p : Int) + y - ((q + 1 : Nat) : Int) = p + y - q - 1 from by omega], HR.out, hK2.out, HB2.out⟩
          case measure => simp [intOf]; omega
        · have i2 : ¬ 0 < (p : Int) + y - q := by omega
          have hqe : (q : Int) = p + y := by omega
          have HR := Lib.hid hrow
          have HB := Lib.hid hB
          have HQ := Lib.hid hqe
          clear hrow hB hK hqe
          go_wp2
          go_roundw
          case rel => exact ⟨k + 1, q, by omega, by go_num, rfl, HS2.out.trans HQ.out.symm, HR.out, HB.out⟩
          case measure => simp [intOf]; omega
    · obtain rfl : k = ts.length := by omega
      have hpN : p = N := by
        have := hp.out
        rw [sumT_all, HN.out] at this
        omega
      have HR := Lib.hid hrow
      have HB := Lib.hid hB
      have HPN := Lib.hid hpN
      clear hrow hB hpN
      go_wp2
      go_ret
      refine ⟨w1.heap.size, rfl, hS, ?_, HB.out⟩
      unfold Row
      rw [HL.out]
      refine HR.out.congr (fun j hj => ?_)
      unfold upTo
      rw [if_pos (by rw [HPN.out]; omega), ownT_get _ (by rw [HT.out]; exact hj)]
end Go.Proofs.Ytgmmdpdlekpmfaa
