/- impl.ShareOf and spec.ShareOf. Condition: at most 1048576 holdings. -/
import Derived.Test.YthagafkjlecagabShare
import Derived.Test.YthagafkjlecagabHoldW
namespace Go.Proofs.Ythagafkjlecagab
open Go.RowKit

def shV (hs : List Hd) (o : Int) : Int × Int := if vlR hs then shR hs o else (0, 0)
def ShareO (w : World) (hs : List Hd) (o : Int) (e : Ending) (w' : World) : Prop := e = .returned (.agg #[.int .i64 (shV hs o).1, .int .i64 (shV hs o).2]) ∧ Below w.heap.size w w'
set_option maxHeartbeats 1000000 in
theorem iShareOf (a : Option Addr) (cap : Nat) (hs : List Hd) (o : Int) (w : World) (h : IsHs w a hs) (hn : hs.length ≤ 1048576) :
    Calls Try.prog 109 #[.slice a hs.length cap, .int .i64 o] w (ShareO w hs o) := by
  have HI := Lib.hid h
  clear h
  cases hv : vlR hs with
  | false =>
    have CV := iVL a cap hs (w.alloc (.cells #[.int .i64 0, .int .i64 0] 46)) (hs_below HI.out (by go_grown)) hn
    rw [hv] at CV
    have HS : Hid (shV hs o = (0, 0)) := by show shV hs o = (0, 0); unfold shV; rw [hv]; rfl
    clear hv
    go_enter Try.func109, Try.ntmps109
    go_wp2_with fail
    refine CV.mono ?_
    rintro e w1 ⟨rfl, hb⟩
    obtain ⟨t0, t1, t2, t3, t4⟩ := blk_two ((Blk.new w 46 #[.int .i64 0, .int .i64 0]).next hb)
    have hB := bel_tr ((Below.refl w.heap.size w).alloc (Nat.le_refl _) _) hb
    clear hb CV
    go_wp2_with fail
    exact bodyPost_ret (v := .agg #[.int .i64 0, .int .i64 0]) (by simp [results, Try.results109, go_sem, t0, t1]) rfl ⟨by rw [HS.out], (hB.setCell (by simp) _).setCell (by simp) _⟩
  | true =>
    have CV := iVL a cap hs (w.alloc (.cells #[.int .i64 0, .int .i64 0] 46)) (hs_below HI.out (by go_grown)) hn
    rw [hv] at CV
    have HS : Hid (shV hs o = shR hs o) := by show shV hs o = shR hs o; unfold shV; rw [hv]; rfl
    clear hv
    go_enter Try.func109, Try.ntmps109
    go_wp2_with fail
    refine CV.mono ?_
    rintro e w1 ⟨rfl, hb⟩
    have hS := (Blk.new w 46 #[.int .i64 0, .int .i64 0]).next hb
    have hB := bel_tr ((Below.refl w.heap.size w).alloc (Nat.le_refl _) _) hb
    clear hb CV
    go_wp2_with fail
    refine (ishare a cap hs o _ (hs_below HI.out hB) hn).mono ?_
    rintro e w2 ⟨rfl, hb2⟩
    obtain ⟨t0, t1, t2, t3, t4⟩ := blk_two (hS.next hb2)
    have hB2 := bel_tr hB hb2
    clear hb2 hS hB
    obtain ⟨x, hx⟩ : ∃ x, x = (shR hs o).1 := ⟨_, rfl⟩
    obtain ⟨y, hy⟩ : ∃ y, y = (shR hs o).2 := ⟨_, rfl⟩
    rw [← hx, ← hy]
    have HX := Lib.hid hx
    have HY := Lib.hid hy
    clear hx hy
    go_wp2_with fail
    exact bodyPost_ret (v := .agg #[.int .i64 x, .int .i64 y]) (by simp [results, Try.results109, go_sem, t0, t1]) rfl ⟨by rw [HS.out, HX.out, HY.out], (hB2.setCell (by simp) _).setCell (by simp) _⟩
end Go.Proofs.Ythagafkjlecagab
