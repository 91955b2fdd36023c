/- The laws' own functions on Turns: sizes, copies, comparisons, marks. Condition: at most 1048576 of them. -/
import Derived.Test.YtonoallohalhgaaTn
import Derived.Test.YtonoallohalhgaaCopy
import Derived.Deep.RegionHeld3
import Derived.Deep.DeepCutAuto
namespace Go.Proofs.Ytonoallohalhgaa
open Go.RowKit

theorem leqTn1 (x0 x1 : Int) (w : World) :
    Calls Try.prog 28 #[.agg #[.int .i64 x0, .int .i64 x1], .agg #[.int .i64 x0, .int .i64 x1]] w fun e w' => e = .returned (.bool true) ∧ Below w.heap.size w w' := by
  go_enter Try.func28, Try.ntmps28
  go_wp2
  go_ret
  exact ⟨rfl, by go_grown⟩

/-- what the copy leaves -/
def CopiedTn (w : World) (xs : List Tn) (e : Ending) (w' : World) : Prop := ∃ g : Nat, e = .returned (.slice (some ⟨g, 0, none⟩) xs.length xs.length) ∧ w.heap.size ≤ g ∧ Flat w' g 52 (flatTn xs) ∧ Below w.heap.size w w'
theorem madeTn (w : World) (n : Nat) (t : TypeId) : (w.alloc (.cells (madeCells #[.int .i64 0, .int .i64 0] n) t)).rowIs w.heap.size t n (fun _ => .int .i64 0) := by
  have hs : (madeCells #[Value.int .i64 0, .int .i64 0] n).size = n := by unfold madeCells; simp
  refine ⟨_, heap_alloc_new w _, hs, fun i hi => ?_⟩
  have hm : i % 2 = 0 ∨ i % 2 = 1 := by omega
  unfold madeCells
  rw [Array.getElem?_map, Array.getElem?_range, if_pos hi]
  show some ((#[Value.int .i64 0, .int .i64 0] : Array Value)[i % 2]!) = _
  rcases hm with h | h <;> rw [h] <;> rfl
theorem run_makeTn (n : Nat) (hn : n ≤ 1048576) (w : World) : (Instr.makeSlice 24 (.int .i64 (n : Int)) (.int .i64 (n : Int))).run Try.prog w = .ok (.slice (some ⟨w.heap.size, 0, none⟩) n n) (w.alloc (.cells (madeCells #[.int .i64 0, .int .i64 0] (n * 2)) 52)) := by
  obtain ⟨i0, hi0, hz0, hz1, hz2⟩ := info_parts infoTn
  have := run_make (P := Try.prog) w 24 52 i0 _ Try.underlying24 hi0 hz0 .i64 .i64 (n : Int) (n : Int) (by omega) (by omega) (by rw [hz2]; omega) (by omega)
  simp only [Int.toNat_natCast, hz1] at this
  exact this

theorem keepTn {w w' : World} {p0 p1 p2 p3 : Addr} {u0 u1 u2 u3 : Value} (hb : Below w.heap.size w w') (h : w.cell? p0 = some u0 ∧ w.cell? p1 = some u1 ∧ w.cell? p2 = some u2 ∧ w.cell? p3 = some u3) : w'.cell? p0 = some u0 ∧ w'.cell? p1 = some u1 ∧ w'.cell? p2 = some u2 ∧ w'.cell? p3 = some u3 := by
  have n : ∀ {p : Addr} {v : Value}, w.cell? p = some v → w'.cell? p = some v := fun h => (hb.cell (World.block_lt_of_cell? w _ h)).trans h
  obtain ⟨h0, h1, h2, h3⟩ := h
  exact ⟨n h0, n h1, n h2, n h3⟩

set_option maxHeartbeats 2000000 in
/-- the comparison of two readings of the same -/
theorem leqTn (a b : Option Addr) (ca cb : Nat) (xs : List Tn) (w : World) (ha : IsTn w a xs) (hb : IsTn w b xs) (hn : xs.length ≤ 1048576) :
    Calls Try.prog 9 #[.slice a xs.length ca, .slice b xs.length cb] w fun e w' => e = .returned (.bool true) ∧ Below w.heap.size w w' := by
  rcases ha with rfl | ⟨g, o, rfl, hc⟩
  · go_enter Try.func9, Try.ntmps9
    go_wp2
    go_rounds 1
    go_ret
    exact ⟨rfl, by go_grown⟩
  · rcases hb with rfl | ⟨g2, o2, rfl, hc2⟩
    · go_enter Try.func9, Try.ntmps9
      go_wp2
      go_rounds 1
      go_ret
      exact ⟨rfl, by go_grown⟩
    · have HC := Lib.hid hc
      have HD := Lib.hid hc2
      clear hc hc2
      go_enter Try.func9, Try.ntmps9
      go_wp2
      go_loopw [5] (fun i wr => ∃ k : Nat, k ≤ xs.length ∧ i = .int .i64 k ∧ Below w.heap.size w wr) (fun i _ => xs.length - (intOf i).toNat)
      case atStart => exact ⟨0, Nat.zero_le _, rfl, by go_grown⟩
      case round =>
        obtain ⟨k, hk, rfl, hB⟩ := hrel
        by_cases hlt : k < xs.length
        · obtain ⟨c0, c1⟩ := tn_at HC.out hB hlt
          obtain ⟨d0, d1⟩ := tn_at HD.out hB hlt
          generalize xs.getD k tn0 = hh at c0 c1 d0 d1
          obtain ⟨x0, x1⟩ := hh
          dsimp only at c0 c1 d0 d1
          have HB := Lib.hid hB
          clear hB
          have i0 : (0 : Int) ≤ (k : Int) := by omega
          have i1 : (k : Int) < (xs.length : Int) := by omega
          go_wp2_with fail
          go_region_held3 (fun w' => w'.cell? ⟨g, o + k * 2, none⟩ = some (.int .i64 x0) ∧ w'.cell? ⟨g, o + k * 2 + 1, none⟩ = some (.int .i64 x1) ∧ w'.cell? ⟨g2, o2 + k * 2, none⟩ = some (.int .i64 x0) ∧ w'.cell? ⟨g2, o2 + k * 2 + 1, none⟩ = some (.int .i64 x1)) (first | (exact keepTn (by assumption) (by assumption)) | (refine ⟨?_, ?_, ?_, ?_⟩ <;> (go_keep; done))) (first | (go_at_call 28; refine (leqTn1 x0 x1 _).mono ?_; rintro e w3 ⟨rfl, hb⟩))
          go_wp2_with fail
          go_roundw
          case rel => exact ⟨k + 1, by omega, by go_num, bel_tr HB.out.drew hb⟩
          case measure => simp [intOf]; omega
        · go_wp2
          go_ret
          exact ⟨rfl, hB⟩

/-- what the marking leaves -/
def MarkedTn (w : World) (g n : Nat) (e : Ending) (w' : World) : Prop := e = .returned (.int .i64 (1 + ((n * 2 : Nat) : Int))) ∧ Flat w' g 52 (marksF (n * 2)) ∧ w.grownBy w' (some g)
set_option maxHeartbeats 2000000 in
theorem lmarkTn (g cap n : Nat) (zs : List Int) (w : World) (h : Flat w g 52 zs) (hl : zs.length = n * 2) (hn : n ≤ 1048576) :
    Calls Try.prog 12 #[.slice (some ⟨g, 0, none⟩) n cap, .int .i64 1] w (MarkedTn w g n) := by
  have H := Lib.hid h
  have HL := Lib.hid hl
  clear h hl
  go_enter Try.func12, Try.ntmps12
  go_wp2
  go_loopw [1, 5] (fun q i wr => ∃ k : Nat, k ≤ n ∧ i = .int .i64 k ∧ q = .int .i64 (1 + ((k * 2 : Nat) : Int)) ∧ Flat wr g 52 (markTo zs (k * 2)) ∧ w.grownBy wr (some g)) (fun _ i _ => n - (intOf i).toNat)
  case atStart => exact ⟨0, Nat.zero_le _, rfl, rfl, by rw [Nat.zero_mul, markTo_zero]; exact H.out, g_of (Below.refl _ _) _⟩
  case round =>
    obtain ⟨k, hk, rfl, rfl, hF, hG⟩ := hrel
    by_cases hlt : k < n
    · have hzl := HL.out
      have l0 := markTo_len (zs := zs) (j := k * 2) (by omega)
      have c0 := hF.cell (j := k * 2) (by omega)
      have c1 := hF.cell (j := k * 2 + 1) (by omega)
      have f0 := hF.frozen (k * 2)
      have f1 := hF.frozen (k * 2 + 1)
      have n1 := (hF.set_ (i := k * 2) (by omega) (1 + ((k * 2 : Nat) : Int)))
      rw [markTo_succ (by omega)] at n1
      have l1 := markTo_len (zs := zs) (j := k * 2 + 1) (by omega)
      have n2 := (n1.set_ (i := k * 2 + 1) (by omega) (1 + ((k * 2 + 1 : Nat) : Int)))
      rw [markTo_succ (by omega), show k * 2 + 1 + 1 = (k + 1) * 2 from by omega] at n2
      have e1 : (1 + ((k * 2 + 1 : Nat) : Int)) = 1 + ((k * 2 : Nat) : Int) + 1 := by omega
      have e2 : (1 + (((k + 1) * 2 : Nat) : Int)) = 1 + ((k * 2 : Nat) : Int) + 1 + 1 := by omega
      rw [e1] at n2
      have hq : ((k * 2 : Nat) : Int) ≤ 2097152 := by omega
      have hq0 : 0 ≤ ((k * 2 : Nat) : Int) := by omega
      generalize ((k * 2 : Nat) : Int) = q at n2 e2 hq hq0
      generalize (markTo zs (k * 2)).getD (k * 2) 0 = z0 at c0
      generalize (markTo zs (k * 2)).getD (k * 2 + 1) 0 = z1 at c1
      have HN := Lib.hid n2
      have HG := Lib.hid hG
      have H3 := Lib.hid e2
      clear n1 n2 e1 e2 l0 l1 hF hG hzl
      go_wp2_with fail
      go_roundw
      case rel => exact ⟨k + 1, by omega, by go_num, by rw [H3.out], HN.out, (g_set2 (g_set2 HG.out))⟩
      case measure => simp [intOf]; omega
    · obtain rfl : n = k := by omega
      have HF := Lib.hid hF
      have HG := Lib.hid hG
      clear hF hG
      go_wp2_with fail
      go_ret
      refine ⟨rfl, ?_, HG.out⟩
      have := HF.out
      rw [← HL.out, markTo_end, HL.out] at this
      exact this
theorem lmarkTn_nil (w : World) : Calls Try.prog 12 #[.slice none 0 0, .int .i64 1] w fun e w' => e = .returned (.int .i64 1) ∧ w = w' := by
  go_enter Try.func12, Try.ntmps12
  go_wp2
  go_rounds 1
  go_ret
  exact ⟨rfl, rfl⟩
theorem lheldTn_nil (w : World) : Calls Try.prog 13 #[.slice none 0 0, .int .i64 1] w fun e w' => e = .returned (.int .i64 1) ∧ w = w' := by
  go_enter Try.func13, Try.ntmps13
  go_wp2
  go_rounds 1
  go_ret
  exact ⟨rfl, rfl⟩
set_option maxHeartbeats 2000000 in
theorem lheldTn (g cap n : Nat) (w : World) (h : Flat w g 52 (marksF (n * 2))) (hn : n ≤ 1048576) :
    Calls Try.prog 13 #[.slice (some ⟨g, 0, none⟩) n cap, .int .i64 1] w fun e w' => e = .returned (.int .i64 (1 + ((n * 2 : Nat) : Int))) ∧ w = w' := by
  have H := Lib.hid h
  clear h
  go_enter Try.func13, Try.ntmps13
  go_wp2
  go_loop [1, 5] (fun q i => ∃ k : Nat, k ≤ n ∧ i = .int .i64 k ∧ q = .int .i64 (1 + ((k * 2 : Nat) : Int))) (fun _ i => n - (intOf i).toNat)
  case atStart => exact ⟨0, Nat.zero_le _, rfl, rfl⟩
  case round =>
    obtain ⟨k, hk, rfl, rfl⟩ := hrel
    by_cases hlt : k < n
    · have c0 := H.out.cell (j := k * 2) (by rw [marksF_len]; omega)
      have c1 := H.out.cell (j := k * 2 + 1) (by rw [marksF_len]; omega)
      rw [marksF_get _ (by omega)] at c0 c1
      rw [show (1 + ((k * 2 + 1 : Nat) : Int)) = 1 + ((k * 2 : Nat) : Int) + 1 from by omega] at c1
      have e3 : (1 + (((k + 1) * 2 : Nat) : Int)) = 1 + ((k * 2 : Nat) : Int) + 1 + 1 := by omega
      have hq : ((k * 2 : Nat) : Int) ≤ 2097152 := by omega
      have hq0 : 0 ≤ ((k * 2 : Nat) : Int) := by omega
      generalize ((k * 2 : Nat) : Int) = q at c0 c1 e3 hq hq0
      have H3 := Lib.hid e3
      clear e3
      go_wp2_with fail
      go_round
      case rel => exact ⟨k + 1, by omega, by go_num, by rw [H3.out]⟩
      case measure => simp [intOf]; omega
    · obtain rfl : n = k := by omega
      go_wp2_with fail
      go_ret
      exact ⟨rfl, rfl⟩
end Go.Proofs.Ytonoallohalhgaa
