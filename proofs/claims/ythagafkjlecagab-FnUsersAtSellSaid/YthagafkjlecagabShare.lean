/- The share of an owner, by impl.shareIn and spec.shareOf. Condition: at most 1048576 holdings. -/
import Derived.Test.YthagafkjlecagabGrA
namespace Go.Proofs.Ythagafkjlecagab
open Go.RowKit

def ShareV (w : World) (hs : List Hd) (o : Int) (e : Ending) (w' : World) : Prop := e = .returned (.agg #[.int .i64 (shR hs o).1, .int .i64 (shR hs o).2]) ∧ Below w.heap.size w w'
theorem shR_hit {hs : List Hd} {o : Int} {k : Nat} (hk : k < hs.length) (h : ∀ j, j < k → (hs.getD j hd0).1 ≠ o) {n d : Int} (he : hs.getD k hd0 = (o, n, d)) : shR hs o = (n, d) := by
  rw [shR_at hk h (by rw [he]), he]

set_option maxHeartbeats 1000000 in
theorem ishare (a : Option Addr) (cap : Nat) (hs : List Hd) (o : Int) (w : World) (h : IsHs w a hs) (hn : hs.length ≤ 1048576) :
    Calls Try.prog 53 #[.slice a hs.length cap, .int .i64 o] w (ShareV w hs o) := by
  rcases h with rfl | ⟨g, off, rfl, hc⟩
  · go_enter Try.func53, Try.ntmps53
    go_wp2_with fail
    refine wp_loop_rounds 1 ?_
    rw [rounds_succ]
    go_wp2_with fail
    refine (inoShare _).mono ?_
    rintro e w1 ⟨rfl, hb⟩
    obtain ⟨t0, t1, t2, t3, t4⟩ := blk_two ((Blk.new w 46 #[.int .i64 0, .int .i64 0]).next hb)
    have hB := bel_tr ((Below.refl w.heap.size w).alloc (Nat.le_refl _) _) hb
    clear hb
    go_wp2_with fail
    exact bodyPost_ret (v := .agg #[.int .i64 0, .int .i64 1]) (by simp [results, Try.results53, go_sem, t0, t1]) rfl ⟨rfl, (hB.setCell (by simp) _).setCell (by simp) _⟩
  · have HC := Lib.hid hc
    clear hc
    go_enter Try.func53, Try.ntmps53
    go_wp2_with fail
    go_loopw [9] (fun i wr => ∃ k : Nat, k ≤ hs.length ∧ i = .int .i64 k ∧ Hid (∀ j, j < k → (hs.getD j hd0).1 ≠ o) ∧ Blk wr w.heap.size 46 #[.int .i64 0, .int .i64 0] ∧ Below w.heap.size w wr) (fun i _ => hs.length - (intOf i).toNat)
    case atStart => exact ⟨0, Nat.zero_le _, rfl, fun j hj => by omega, Blk.new _ _ _, by go_grown⟩
    case round =>
      obtain ⟨k, hk, rfl, HK, hS, hB⟩ := hrel
      by_cases hlt : k < hs.length
      · obtain ⟨c0, c1, c2⟩ := cells_at HC.out hB hlt
        have hy : (hs.getD k hd0).1 ≠ o → ∀ j, j < k + 1 → (hs.getD j hd0).1 ≠ o := fun e j hj => by
          by_cases ej : j = k
          · subst ej; exact e
          · exact HK.out j (by omega)
        have hh2 : ∀ n d : Int, hs.getD k hd0 = (o, n, d) → shR hs o = (n, d) := fun n d e => shR_hit hlt HK.out e
        generalize hs.getD k hd0 = hh at c0 c1 c2 hy hh2
        obtain ⟨x, n, d⟩ := hh
        dsimp only at c0 c1 c2 hy
        obtain ⟨t0, t1, t2, t3, t4⟩ := blk_two hS
        have HY := Lib.hid hy
        have HH := Lib.hid hh2
        have HS := Lib.hid hS
        have HB := Lib.hid hB
        clear hy hh2 hS hB
        by_cases hx : x = o
        · have e : (x == o) = true := by simpa using hx
          have HR : Hid (shR hs o = (n, d)) := HH.out n d (by rw [hx])
          clear hx
          go_wp2_with fail
          exact bodyPost_ret (v := .agg #[.int .i64 n, .int .i64 d]) (by simp [results, Try.results53, go_sem, t0, t1, t4]) rfl ⟨by rw [HR.out], (((HB.out.setCell (by simp) _).setCell (by simp) _).alloc (by simpa using HB.out.size) _)⟩
        · have e : (x == o) = false := by simpa using hx
          go_wp2_with fail
          go_roundw
          case rel => exact ⟨k + 1, by omega, by go_num, HY.out hx, HS.out.alloc _, HB.out.alloc HB.out.size _⟩
          case measure => simp [intOf]; omega
      · have HN : Hid (shR hs o = (0, 1)) := shR_none (fun j hj => HK.out j (by omega))
        obtain ⟨t0, t1, t2, t3, t4⟩ := blk_two hS
        go_wp2_with fail
        refine (inoShare _).mono ?_
        rintro e w1 ⟨rfl, hb⟩
        obtain ⟨t0, t1, t2, t3, t4⟩ := blk_two (hS.next hb)
        have hB1 := bel_tr hB hb
        clear hb hS
        go_wp2_with fail
        exact bodyPost_ret (v := .agg #[.int .i64 0, .int .i64 1]) (by simp [results, Try.results53, go_sem, t0, t1]) rfl ⟨by rw [HN.out], (hB1.setCell (by simp) _).setCell (by simp) _⟩
set_option maxHeartbeats 1000000 in
theorem sshare (a : Option Addr) (cap : Nat) (hs : List Hd) (o : Int) (w : World) (h : IsHs w a hs) (hn : hs.length ≤ 1048576) :
    Calls Try.prog 77 #[.slice a hs.length cap, .int .i64 o] w (ShareV w hs o) := by
  rcases h with rfl | ⟨g, off, rfl, hc⟩
  · go_enter Try.func77, Try.ntmps77
    go_wp2_with fail
    refine wp_loop_rounds 1 ?_
    rw [rounds_succ]
    go_wp2_with fail
    exact bodyPost_ret (v := .agg #[.int .i64 0, .int .i64 1]) (by simp [results, Try.results77, go_sem]) rfl ⟨rfl, by go_grown⟩
  · have HC := Lib.hid hc
    clear hc
    go_enter Try.func77, Try.ntmps77
    go_wp2_with fail
    go_loopw [5] (fun i wr => ∃ k : Nat, k ≤ hs.length ∧ i = .int .i64 k ∧ Hid (∀ j, j < k → (hs.getD j hd0).1 ≠ o) ∧ Blk wr w.heap.size 46 #[.int .i64 0, .int .i64 0] ∧ Below w.heap.size w wr) (fun i _ => hs.length - (intOf i).toNat)
    case atStart => exact ⟨0, Nat.zero_le _, rfl, fun j hj => by omega, Blk.new _ _ _, by go_grown⟩
    case round =>
      obtain ⟨k, hk, rfl, HK, hS, hB⟩ := hrel
      by_cases hlt : k < hs.length
      · obtain ⟨c0, c1, c2⟩ := cells_at HC.out hB hlt
        have hy : (hs.getD k hd0).1 ≠ o → ∀ j, j < k + 1 → (hs.getD j hd0).1 ≠ o := fun e j hj => by
          by_cases ej : j = k
          · subst ej; exact e
          · exact HK.out j (by omega)
        have hh2 : ∀ n d : Int, hs.getD k hd0 = (o, n, d) → shR hs o = (n, d) := fun n d e => shR_hit hlt HK.out e
        generalize hs.getD k hd0 = hh at c0 c1 c2 hy hh2
        obtain ⟨x, n, d⟩ := hh
        dsimp only at c0 c1 c2 hy
        obtain ⟨t0, t1, t2, t3, t4⟩ := blk_two hS
        have HY := Lib.hid hy
        have HH := Lib.hid hh2
        have HS := Lib.hid hS
        have HB := Lib.hid hB
        clear hy hh2 hS hB
        by_cases hx : x = o
        · have e : (x == o) = true := by simpa using hx
          have HR : Hid (shR hs o = (n, d)) := HH.out n d (by rw [hx])
          clear hx
          go_wp2_with fail
          exact bodyPost_ret (v := .agg #[.int .i64 n, .int .i64 d]) (by simp [results, Try.results77, go_sem, t0, t1]) rfl ⟨by rw [HR.out], ((HB.out.setCell (by simp) _).setCell (by simp) _)⟩
        · have e : (x == o) = false := by simpa using hx
          go_wp2_with fail
          go_roundw
          case rel => exact ⟨k + 1, by omega, by go_num, HY.out hx, HS.out, HB.out⟩
          case measure => simp [intOf]; omega
      · have HN : Hid (shR hs o = (0, 1)) := shR_none (fun j hj => HK.out j (by omega))
        obtain ⟨t0, t1, t2, t3, t4⟩ := blk_two hS
        go_wp2_with fail
        exact bodyPost_ret (v := .agg #[.int .i64 0, .int .i64 1]) (by simp [results, Try.results77, go_sem, t0, t1]) rfl ⟨by rw [HN.out], (hB.setCell (by simp) _).setCell (by simp) _⟩
end Go.Proofs.Ythagafkjlecagab
