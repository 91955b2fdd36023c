/- impl.ParseFrac. Condition: a text of at most 4294967296 bytes. -/
import Derived.Test.YtdlbjmhjaljlfaaFmtF
import Derived.Test.YtdlbjmhjaljlfaaRedS
import Derived.Test.YtdlbjmhjaljlfaaRead
namespace Go.Proofs.Ytdlbjmhjaljlfaa
open Go.RowKit

theorem pok_no {s : ByteArray} (h : idxI 47 s = -1) : pok s = false := by unfold pok; rw [h]; rfl
theorem pok_at {s : ByteArray} {k : Nat} (h : idxI 47 s = k) : pok s = Wsh.vfB (rdS 1000000 (s.extract 0 k)) (rdS 1000000 (s.extract (k + 1) s.size)) ∧ pnum s = rdS 1000000 (s.extract 0 k) ∧ pden s = rdS 1000000 (s.extract (k + 1) s.size) := by
  unfold pok pnum pden
  rw [h, decide_eq_true (by omega), Bool.true_and]
  exact ⟨rfl, rfl, rfl⟩
theorem frV_no' {b : Bool} {x y : Int} (h : b = false) : Ending.returned (.tuple #[.agg #[.int .i64 0, .int .i64 0], .bool false]) = .returned (frV b x y) := by rw [h]; rfl
theorem frV_yes' {b : Bool} {x y u v : Int} (h : b = true) (hx : u = x) (hy : v = y) : Ending.returned (.tuple #[.agg #[.int .i64 u, .int .i64 v], .bool true]) = .returned (frV b x y) := by rw [h, hx, hy]; rfl
theorem iread_q (s : ByteArray) (w : World) (h : s.size ≤ 4294967296) : ∀ j : Nat, Calls Try.prog 108 #[.string s] (w.drewN j) fun e w' => e = .returned (.int .i64 (rdS 10000000 s)) ∧ ∃ m, w' = w.drewN m :=
  fun j => Calls.quiet_of_same (w := w) (n := j) ((iread s _ h).mono (fun _ _ h => ⟨h.1, h.2.symm⟩))
theorem ext_size (s : ByteArray) (a b : Nat) : (s.extract a b).size ≤ s.size := by
  rw [← bt_len, ext_data, ← bt_len, List.length_take, List.length_drop]; omega
theorem c2_drew {w : World} {g : Nat} {x y : Value} (h : Cell2 w g x y) : Cell2 w.drew g x y := h
set_option maxHeartbeats 1000000 in
/-- impl.ParseFrac -/
theorem iPar (s : ByteArray) (w : World) (h : s.size ≤ 4294967296) :
    Calls Try.prog 107 #[.string s] w fun e w' => e = .returned (frV (pok s) (pnum s) (pden s)) ∧ Below w.heap.size w w' := by
  rcases idx_or 47 s with ⟨k, hk, _, _, hi⟩ | ⟨_, hi⟩
  · obtain ⟨e1, e2, e3⟩ := pok_at hi
    obtain ⟨l1, l2⟩ := vf_lim (s.extract 0 k) (s.extract (k + 1) s.size)
    have z1 := ext_size s 0 k
    have z2 := ext_size s (k + 1) s.size
    rw [e1, e2, e3]
    have HI := Lib.hid hi
    have HL := Lib.hid l2
    have HL1 := Lib.hid l1
    clear e1 e2 e3 hi l1 l2
    go_enter Try.func107, Try.ntmps107
    go_wp2_with fail
    refine (iidx s 47 _ h).mono ?_
    rintro e w' ⟨rfl, rfl⟩
    rw [HI.out]
    go_wp2_with fail
    have q1 : (0 : Int) ≤ (k : Int) := by omega
    have q2 : (k : Int) ≤ (s.size : Int) := by omega
    have q3 : (0 : Int) ≤ (k : Int) + 1 := by omega
    have q4 : (k : Int) + 1 ≤ (s.size : Int) := by omega
    have t1 : IntKind.i64.wrap ((k : Int) + 1) = (k : Int) + 1 := by rw [IntKind.wrap_i64]; omega
    have t2 : ((k : Int) + 1).toNat = k + 1 := by omega
    generalize hA : s.extract 0 k = A at *
    generalize hD : s.extract (k + 1) s.size = D at *
    have za : A.size ≤ 4294967296 := by omega
    have zd : D.size ≤ 4294967296 := by omega
    go_region_held3 (fun _ => True) (exact trivial) (first | (go_at_call_of 108 (Value.string A); refine (iread A _ za).mono ?_; rintro e w' ⟨rfl, rfl⟩) | (go_at_call_of 108 (Value.string D); refine (iread D _ zd).mono ?_; rintro e w' ⟨rfl, rfl⟩))
    all_goals (
      go_wp2_with fail
      refine (iValid (rdS 10000000 A) (rdS 10000000 D) _).mono ?_
      rintro e w1 ⟨rfl, hb⟩
      obtain ⟨c0, c1, f0, f1, hz⟩ := c2_below (c2_drew (c2_new (w.alloc (.cells #[.int .i64 0, .int .i64 0] 36)) (.int .i64 (rdS 10000000 A)) (.int .i64 (rdS 10000000 D)) _)) hb
      have hB1 : Below w.heap.size w w1 := bel_tr (by go_grown) hb
      simp only [World.size_alloc] at c0 c1 f0 f1 hz
      obtain ⟨d0, d1, g0, g1, hy⟩ := c2_below (c2_drew (c2_alloc (c2_new w (.int .i64 0) (.int .i64 0) 36) (.cells #[.int .i64 (rdS 10000000 A), .int .i64 (rdS 10000000 D)] 36))) hb
      clear hb
      rw [HL1.out]
      cases hv : Wsh.vfB (rdS 1000000 A) (rdS 1000000 D) with
      | false =>
        go_wp2_with fail
        refine bodyPost_ret (v := .tuple #[.agg #[.int .i64 0, .int .i64 0], .bool false]) (by simp [results, Try.results107, go_sem, d0, d1]) rfl ⟨frV_no' (by rw [hA, hD]; exact hv), by go_grown⟩
      | true =>
        have HE := Lib.hid (HL.out hv)
        go_wp2_with fail
        refine bodyPost_ret (v := .tuple #[.agg #[.int .i64 (rdS 10000000 A), .int .i64 (rdS 10000000 D)], .bool true]) (by simp [results, Try.results107, go_sem, d0, d1]) rfl ⟨frV_yes' (by rw [hA, hD]; exact hv) (by rw [hA]; exact HE.out.1) (by rw [hD]; exact HE.out.2), by go_grown⟩)
  · have HX := Lib.hid (pok_no hi)
    have HI := Lib.hid hi
    clear hi
    go_enter Try.func107, Try.ntmps107
    go_wp2_with fail
    refine (iidx s 47 _ h).mono ?_
    rintro e w' ⟨rfl, rfl⟩
    rw [HI.out]
    go_wp2_with fail
    go_returns
    exact ⟨frV_no' HX.out, by go_grown⟩
end Go.Proofs.Ytdlbjmhjaljlfaa
