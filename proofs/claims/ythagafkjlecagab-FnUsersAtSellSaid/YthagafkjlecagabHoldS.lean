/- spec.sumOf and spec.validLedger. Condition: at most 1048576 holdings. -/
import Derived.Test.YthagafkjlecagabGrA
import Derived.Deep.RegionHeld3
import Derived.Deep.DeepCutAuto
namespace Go.Proofs.Ythagafkjlecagab
open Go.RowKit

theorem cell_next {w w' : World} {p : Addr} {v : Value} (hb : Below w.heap.size w w') (h : w.cell? p = some v) : w'.cell? p = some v := (hb.cell (World.block_lt_of_cell? w _ h)).trans h
theorem keep4 {w w' : World} {p q r s : Addr} {u v x y : Value} (hb : Below w.heap.size w w') (h : w.cell? p = some u ∧ w.cell? q = some v ∧ w.cell? r = some x ∧ w.cell? s = some y) : w'.cell? p = some u ∧ w'.cell? q = some v ∧ w'.cell? r = some x ∧ w'.cell? s = some y := ⟨cell_next hb h.1, cell_next hb h.2.1, cell_next hb h.2.2.1, cell_next hb h.2.2.2⟩
theorem keep2 {w w' : World} {p q : Addr} {u v : Value} (hb : Below w.heap.size w w') (h : w.cell? p = some u ∧ w.cell? q = some v) : w'.cell? p = some u ∧ w'.cell? q = some v := ⟨cell_next hb h.1, cell_next hb h.2⟩
def allQ (hs : List Hd) : Bool := (List.range hs.length).all (fun j => frB (sumQ hs (j + 1)))
/-- a sum of fractions by spec.addFrac, its value known -/
theorem saddQ {an ad bn bd x y : Int} {b : Bool} (w : World) (ha : Wsh.vfB an ad = true) (hb : Wsh.vfB bn bd = true) (hr : Wsh.redB (an * bd + bn * ad) (ad * bd) = b) (hx : Wsh.rn (an * bd + bn * ad) (ad * bd) = x) (hy : Wsh.rd (an * bd + bn * ad) (ad * bd) = y) :
    Calls Try.prog 75 #[.agg #[.int .i64 an, .int .i64 ad], .agg #[.int .i64 bn, .int .i64 bd]] w fun e w' => e = .returned (.tuple #[.agg #[.int .i64 (Wsh.qn b x), .int .i64 (Wsh.qn b y)], .bool b]) ∧ Below w.heap.size w w' := by
  have := sadd an ad bn bd w ha hb
  rw [hr, hx, hy] at this; exact this
def SumV (w : World) (hs : List Hd) (e : Ending) (w' : World) : Prop := e = .returned (.tuple #[.agg #[.int .i64 (Wsh.qn (allQ hs) (sumQ hs hs.length).num), .int .i64 (Wsh.qn (allQ hs) ((sumQ hs hs.length).den : Int))], .bool (allQ hs)]) ∧ Below w.heap.size w w'

set_option maxHeartbeats 1000000 in
theorem ssumOf (a : Option Addr) (cap : Nat) (hs : List Hd) (w : World) (h : IsHs w a hs) (hn : hs.length ≤ 1048576) (hF : allF hs = true) :
    Calls Try.prog 74 #[.slice a hs.length cap] w (SumV w hs) := by
  have HF := Lib.hid ((rng_all _ _).1 hF)
  clear hF
  rcases h with rfl | ⟨g, off, rfl, hc⟩
  · go_enter Try.func74, Try.ntmps74
    go_wp2_with fail
    refine wp_loop_rounds 1 ?_
    rw [rounds_succ]
    go_wp2_with fail
    exact bodyPost_ret (v := .tuple #[.agg #[.int .i64 0, .int .i64 1], .bool true]) (by simp [results, Try.results74, go_sem]) rfl ⟨rfl, by go_grown⟩
  · have HC := Lib.hid hc
    clear hc
    go_enter Try.func74, Try.ntmps74
    go_wp2_with fail
    go_loopw [5, 6] (fun b i wr => ∃ (k : Nat) (c : Bool), k ≤ hs.length ∧ i = .int .i64 k ∧ b = .bool c ∧ Hid (∀ j, j < k → c = true → frB (sumQ hs (j + 1)) = true) ∧ Hid (c = false → ∃ j, j < k ∧ frB (sumQ hs (j + 1)) = false) ∧
        Blk wr w.heap.size 46 #[.int .i64 0, .int .i64 0] ∧ Blk wr (w.heap.size + 1) 46 #[.int .i64 (Wsh.qn c (sumQ hs k).num), .int .i64 (Wsh.qn c ((sumQ hs k).den : Int))] ∧ Below w.heap.size w wr) (fun _ i _ => hs.length - (intOf i).toNat)
    case atStart => exact ⟨0, true, Nat.zero_le _, rfl, rfl, fun j hj => by omega, (fun c => by cases c), (Blk.new _ _ _).alloc _, by have := Blk.new (w.alloc (.cells #[.int .i64 0, .int .i64 0] 46)) 46 #[.int .i64 0, .int .i64 1]; rw [World.size_alloc] at this; exact this, by go_grown⟩
    case round =>
      obtain ⟨k, c, hk, rfl, rfl, HK, HN, hR, hS, hB⟩ := hrel
      cases c with
      | false =>
        have hq : allQ hs = false := by
          obtain ⟨j, hj, hf⟩ := HN.out rfl
          exact rng_no (by omega) hf
        have HQ := Lib.hid hq
        obtain ⟨t0, t1, t2, t3, t4⟩ := blk_two hS
        obtain ⟨r0, r1, r2, r3, r4⟩ := blk_two hR
        clear hq hS hR
        rw [Wsh.qn_false] at t0 t1
        go_wp2_with fail
        all_goals exact bodyPost_ret (v := .tuple #[.agg #[.int .i64 0, .int .i64 0], .bool false]) (by simp [results, Try.results74, go_sem, r0, r1]) rfl ⟨by rw [HQ.out]; rfl, (hB.setCell (by simp) _).setCell (by simp) _⟩
      | true =>
        by_cases hlt : k < hs.length
        · obtain ⟨c0, c1, c2⟩ := cells_at HC.out hB hlt
          have hf := (okF_is (HF.out k hlt)).1
          have sr := sum_red hlt hf
          have qf : Wsh.vfB (sumQ hs k).num ((sumQ hs k).den : Int) = true := by
            cases k with
            | zero => exact q_vf frB_zero
            | succ k => exact q_vf (HK.out k (by omega) rfl)
          have y2 : ∀ c, frB (sumQ hs (k + 1)) = c → (∀ j, j < k + 1 → c = true → frB (sumQ hs (j + 1)) = true) ∧ (c = false → ∃ j, j < k + 1 ∧ frB (sumQ hs (j + 1)) = false) := fun c e => by
            refine ⟨fun j hj ct => ?_, fun cf => ⟨k, by omega, by rw [e, cf]⟩⟩
            by_cases ej : j = k
            · subst ej; rw [e, ct]
            · exact HK.out j (by omega) rfl
          obtain ⟨sr1, sr2, sr3⟩ := sr
          generalize hcc : frB (sumQ hs (k + 1)) = cc at sr1 y2
          have y3 := y2 cc rfl
          generalize hs.getD k hd0 = hh at c0 c1 c2 hf sr1 sr2 sr3
          obtain ⟨x, n, d⟩ := hh
          dsimp only at c0 c1 c2 hf sr1 sr2 sr3
          have A1 := Lib.hid sr1
          have A2 := Lib.hid sr2
          have A3 := Lib.hid sr3
          have A4 := Lib.hid qf
          have A5 := Lib.hid hf
          have A6 := Lib.hid y3
          have HS := Lib.hid hS
          have HR := Lib.hid hR
          have HB := Lib.hid hB
          obtain ⟨t0, t1, t2, t3, t4⟩ := blk_two hS
          clear sr1 sr2 sr3 qf hf y2 y3 hS hR hB hcc
          have hgne : g ≠ w.heap.size + 1 := by have := World.block_lt_of_cell? w _ (HC.out k hlt).1; dsimp only at this; omega
          have i0 : (0 : Int) ≤ (k : Int) := by omega
          have i1 : (k : Int) < (hs.length : Int) := by omega
          go_wp2_with fail
          go_region_with (first | (go_at_call 75; refine (saddQ _ A4.out A5.out A1.out A2.out A3.out).mono ?_; rintro e w3 ⟨rfl, hb⟩; obtain ⟨t0, t1, t2, t3, t4⟩ := blk_two (HS.out.drew.next hb)))
          all_goals (
            have hB3 := bel_tr HB.out.drew hb
            have hR3 := HR.out.drew.next hb
            have hS3 := HS.out.drew.next hb
            go_wp2_with fail
            go_roundw
            case rel => exact ⟨k + 1, cc, by omega, by go_num, rfl, A6.out.1, A6.out.2, (hR3.far (by simp) _).far (by simp) _, hS3.two _ _, (hB3.setCell (by simp) _).setCell (by simp) _⟩
            case measure => simp [intOf]; omega)
        · obtain rfl : hs.length = k := by omega
          have hq : allQ hs = true := rng_yes (fun j hj => HK.out j hj rfl)
          have HQ := Lib.hid hq
          obtain ⟨t0, t1, t2, t3, t4⟩ := blk_two hS
          obtain ⟨r0, r1, r2, r3, r4⟩ := blk_two hR
          clear hq hS hR
          rw [Wsh.qn_true] at t0 t1
          go_wp2_with fail
          exact bodyPost_ret (v := .tuple #[.agg #[.int .i64 (sumQ hs hs.length).num, .int .i64 ((sumQ hs hs.length).den : Int)], .bool true]) (by simp [results, Try.results74, go_sem, r0, r1]) rfl ⟨by rw [HQ.out]; rfl, (hB.setCell (by simp) _).setCell (by simp) _⟩

theorem vf_boolN {n d : Int} (h : Wsh.vfB n d = false) (w : World) : Calls Try.prog 73 #[.agg #[.int .i64 n, .int .i64 d]] w fun e w' => e = .returned (.bool false) ∧ Below w.heap.size w w' := by
  have := svalid n d w
  rw [h] at this; exact this
theorem vf_boolY {n d : Int} (h : Wsh.vfB n d = true) (w : World) : Calls Try.prog 73 #[.agg #[.int .i64 n, .int .i64 d]] w fun e w' => e = .returned (.bool true) ∧ Below w.heap.size w w' := by
  have := svalid n d w
  rw [h] at this; exact this
theorem keep4r {w w' : World} {p q r s : Addr} {u v x y : Value} (h : w.cell? p = some u ∧ w.cell? q = some v ∧ w.cell? r = some x ∧ w.cell? s = some y) (hb : Below w.heap.size w w') : w'.cell? p = some u ∧ w'.cell? q = some v ∧ w'.cell? r = some x ∧ w'.cell? s = some y := keep4 hb h
theorem vl_all {hs : List Hd} (h1 : ascB hs = true) (h2 : allF hs = true) : vlR hs = (allQ hs && decide (sumQ hs hs.length = 1) && decide (hs.length ≤ 12)) := by
  have e : allS hs = allQ hs := by
    unfold allS allQ
    rw [Bool.eq_iff_iff, rng_all, rng_all]
    unfold allF at h2; rw [rng_all] at h2
    exact ⟨fun h j hj => (okS_is (h j hj)).2, fun h j hj => okS_yes (h2 j hj) (h j hj)⟩
  unfold vlR
  rw [h1, e]
  cases allQ hs <;> cases decide (sumQ hs hs.length = 1) <;> cases decide (hs.length ≤ 12) <;> rfl
theorem vl_noF {hs : List Hd} {k : Nat} (hk : k < hs.length) (h : okF hs k = false) : vlR hs = false := vl_no2 hk (okS_no h)
theorem vl_noA {hs : List Hd} {k : Nat} (hk : k < hs.length) (h : okA hs k = false) : vlR hs = false := vl_no1 (rng_no hk h)

end Go.Proofs.Ythagafkjlecagab
