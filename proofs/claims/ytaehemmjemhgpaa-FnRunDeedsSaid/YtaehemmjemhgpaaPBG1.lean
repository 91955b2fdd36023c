/- Contracts and facts of functions of this program, in build order. Conditions: those stated in each. -/
import Derived.Test.YtaehemmjemhgpaaPBG0
import Derived.Deep.RegionHeld3
import Derived.Deep.DeepCutAuto
import Derived.Deep.Slices
import Derived.ChangeSame
import Derived.ChangeArms
import Derived.ProofKit
import Derived.Lib.SmallJoins
import Derived.Maps.AppendAt
import Derived.Deep.QuietTactic
set_option maxRecDepth 100000
set_option maxHeartbeats 16000000
namespace Go.Proofs.Ytaehemmjemhgpaa
open Go.RowKit
set_option linter.unusedSimpArgs false
set_option linter.unusedVariables false
theorem valsH_cons (h : Hd) (t : List Hd) : valsH (h :: t) = .int .i64 h.1 :: .int .i64 h.2.1 :: .int .i64 h.2.2 :: valsH t := rfl
theorem valsH_setO : ∀ (hs : List Hd) (j : Nat) (z : Int), j < hs.length → (valsH hs).set (j * 3) (.int .i64 z) = valsH (hs.set j (z, (hs.getD j hd0).2)) := by
  intro hs
  induction hs with
  | nil => intro j z h; exact absurd h (Nat.not_lt_zero _)
  | cons h t ih =>
    intro j z hj
    cases j with
    | zero => rfl
    | succ j =>
      have hl : j < t.length := by simpa using hj
      rw [valsH_cons, show (j + 1) * 3 = j * 3 + 1 + 1 + 1 from by omega, List.set_cons_succ, List.set_cons_succ, List.set_cons_succ, ih j z hl]; rfl
theorem valsH_setS {hs : List Hd} (x y : Int) (h : 0 < hs.length) : ((valsH hs).set 1 (.int .i64 x)).set 2 (.int .i64 y) = valsH (hs.set 0 ((hs.getD 0 hd0).1, x, y)) := by
  cases hs with
  | nil => exact absurd h (Nat.lt_irrefl _)
  | cons h t => rfl
theorem own_ishs {w : World} {base g cp k : Nat} {hs : List Hd} (h : w.ownsRow base 91 3 (.slice (some ⟨g, 0, none⟩) k cp) k (valsH hs)) (hl : hs.length = k) : IsHs w (some ⟨g, 0, none⟩) hs ∧ k ≤ cp := by
  subst hl
  rcases Flat.own (zs := flatH hs) h with ⟨hv, _⟩ | ⟨g', cp', hv, _, F, hc⟩
  · cases hv
  · injection hv with e1 e2 e3
    injection e1 with e1
    injection e1 with e1
    subst e1 e3
    exact ⟨F.hs, hc⟩
theorem hs_grown {w w' : World} {a : Option Addr} {hs : List Hd} {b base : Nat} (h : IsHs w a hs) (hb : ∀ ad, a = some ad → base ≤ ad.block) (hlt : b < base) (hG : w.grownBy w' (some b)) : IsHs w' a hs := by
  rcases h with h | ⟨g, o, ha, hc⟩
  · exact .inl h
  · refine .inr ⟨g, o, ha, fun i hi => ?_⟩
    have hg := hb _ ha
    have hne : g ≠ b := by
      have : base ≤ g := hg
      omega
    obtain ⟨c0, c1, c2⟩ := hc i hi
    exact ⟨(g_cell hG (World.block_lt_of_cell? w _ c0) hne).trans c0, (g_cell hG (World.block_lt_of_cell? w _ c1) hne).trans c1, (g_cell hG (World.block_lt_of_cell? w _ c2) hne).trans c2⟩
/-- what anyLedger leaves -/
def AnyHd (w : World) (b : Nat) (P : Int) (e : Ending) (w' : World) : Prop := ∃ (a : Option Addr) (cap : Nat) (hs : List Hd), e = .returned (.slice a hs.length cap) ∧ hs.length ≤ 6 ∧ hs.length ≤ cap ∧ IsHs w' a hs ∧ (∀ ad, a = some ad → w.heap.size ≤ ad.block) ∧ Rd w' b (P + 20) ∧ w.grownBy w' (some b)
theorem drop_ishs {w : World} {base g cp k : Nat} {hs : List Hd} (h : w.ownsRow base 91 3 (.slice (some ⟨g, 0, none⟩) k cp) k (valsH hs)) (hl : hs.length = k) (hk : 1 ≤ k) : IsHs w (if cp = 1 then some ⟨g, 0, none⟩ else some ⟨g, 3, none⟩) (hs.drop 1) ∧ (hs.drop 1).length = k - 1 := by
  obtain ⟨_, hc⟩ := own_ishs h hl
  have hr := (Reads.of_own h).cut (k := 1) (cap := cp) hk hc
  have e : (valsH hs).drop (1 * 3) = valsH (hs.drop 1) := vals_drop hs 1
  have hl1 : (hs.drop 1).length = k - 1 := by rw [List.length_drop]; omega
  rw [e, ← hl1] at hr
  have e2 : Option.map (fun a : Addr => a.add (1 * 3)) (some (⟨g, 0, none⟩ : Addr)) = some ⟨g, 3, none⟩ := by
    show some ((⟨g, 0, none⟩ : Addr).add 3) = _
    rw [add_off]
  rw [e2] at hr
  refine ⟨reads_hs hr (fun ad ha => ?_), hl1⟩
  split at ha <;> (injection ha with ha; subst ha; rfl)
theorem anyHd (b : Nat) (P : Int) (w : World) (h : Rd w b P) (hP : P ≤ 70000) (hb : b < w.heap.size) :
    Calls Try.prog 53 #[.pointer (some ⟨b, 0, none⟩)] w (AnyHd w b P) := by
  go_enter Try.func53, Try.ntmps53
  go_wp2_with fail
  refine (someHd b P _ h (by omega) hb).mono ?_
  rintro e w1 ⟨v, k, hs, rfl, k1, k6, hO, hxl, hR1, hG1⟩
  have hb1 := Nat.lt_of_lt_of_le hb hG1.size
  obtain ⟨g, cp, rfl, lg, ltg⟩ := hO.form (by omega)
  go_wp2_with fail
  refine (pick_any b _ 20 _ hR1 (by omega)).mono ?_
  rintro e w2 ⟨p, rfl, hp, hR2, hG2⟩
  have hb2 := Nat.lt_of_lt_of_le hb1 hG2.size
  have hO2 := hO.kept hG2 (.inr (by simp [Value.ownBlock]; omega))
  have G2 := g_trans hG1 hG2
  clear hO hG1 hG2 hR1
  have HXL := Lib.hid hxl
  by_cases p0 : p = 0
  · have e0 : ((p : Int) == 0) = true := by simp [p0]
    have kk : (0 : Int) < (k : Int) := by omega
    clear p0 hp
    go_wp2_with fail
    refine (anyFrac_any b _ w2 hR2 (by omega) hb2).mono ?_
    rintro e w3 ⟨x, y, rfl, _, _, _, _, hR3, hG3⟩
    have hO3 := hO2.kept hG3 (.inr (by simp [Value.ownBlock]; omega))
    have G3 := g_trans G2 hG3
    have hc0 := hO3.cellAt 1 (by omega)
    have hc1 := hO3.cellAt 2 (by omega)
    obtain ⟨_, v1, v2⟩ := vals_get (hs := hs) (k := 0) (by omega)
    simp only [Nat.zero_mul, Nat.zero_add] at v1 v2
    rw [v1] at hc0
    rw [v2] at hc1
    have hf0 := hO3.frozenAt 1
    have hf1 := hO3.frozenAt 2
    have hS := ((hO3.stored 1 (.int .i64 x)).1.stored 2 (.int .i64 y)).1
    rw [valsH_setS x y (by omega)] at hS
    have hB : Below w.heap.size w3 ((w3.setCell ⟨g, 1, none⟩ (.int .i64 x)).setCell ⟨g, 2, none⟩ (.int .i64 y)) := ((Below.refl _ _).setCell lg _).setCell lg _
    have hfin := rd_end (P := P + 20) hb (rd_up (P' := P + 20) hR3 (by omega)) rfl G3 hB
    have HS := Lib.hid (And.intro hS hfin)
    generalize (hs.getD 0 hd0).2.1 = x0 at hc0
    generalize (hs.getD 0 hd0).2.2 = x1 at hc1
    clear hS hfin hB hO3 hO2 hG3 G3 G2 hR3 hR2 hxl v1 v2
    go_wp2_with fail
    go_ret
    have hl2 : (hs.set 0 ((hs.getD 0 hd0).1, x, y)).length = k := by rw [List.length_set]; exact HXL.out
    obtain ⟨I, hcp⟩ := own_ishs HS.out.1 hl2
    exact ⟨some ⟨g, 0, none⟩, cp, hs.set 0 ((hs.getD 0 hd0).1, x, y), by rw [hl2]; rfl, by omega, by omega, I, (fun ad e => by injection e with e; subst e; exact lg), HS.out.2.1, HS.out.2.2⟩
  · have e0 : ((p : Int) == 0) = false := by simp; omega
    by_cases p1 : p = 1
    · have e1 : ((p : Int) == 1) = true := by simp [p1]
      obtain ⟨j, rfl⟩ : ∃ j, k = j + 1 := ⟨k - 1, by omega⟩
      have wj : IntKind.i64.wrap (((j + 1 : Nat) : Int) - 1) = (j : Int) := by rw [IntKind.wrap_i64]; omega
      have j0 : (0 : Int) ≤ (j : Int) := by omega
      have j1 : (j : Int) < ((j + 1 : Nat) : Int) := by omega
      clear p0 p1 hp
      have HKJ : Hid (1 ≤ j + 1 ∧ j + 1 ≤ 6) := ⟨by omega, by omega⟩
      generalize hjk : ((j + 1 : Nat) : Int) = K at *
      go_wp2_with fail
      refine (one_lit b 4 _ 0 1000 [0, 1, 1000, 999] _ w2 hR2 (by omega) hb2 rfl (by omega) (by omega) (by simp)).mono ?_
      rintro e w3 ⟨d, rfl, d0, d1, hR3, hG3⟩
      have hO3 := hO2.kept hG3 (.inr (by simp [Value.ownBlock]; omega))
      have G3 := g_trans G2 hG3
      have hc0 := hO3.cellAt (j * 3) (by omega)
      rw [(vals_get (hs := hs) (k := j) (by omega)).1] at hc0
      have hf0 := hO3.frozenAt (j * 3)
      have hS := (hO3.stored (j * 3) (.int .i64 d)).1
      rw [valsH_setO hs j d (by omega)] at hS
      have hB : Below w.heap.size w3 (w3.setCell ⟨g, j * 3, none⟩ (.int .i64 d)) := (Below.refl _ _).setCell lg _
      have hfin := rd_end (P := P + 20) hb (rd_up (P' := P + 20) hR3 (by omega)) rfl G3 hB
      have HS := Lib.hid (And.intro hS hfin)
      generalize (hs.getD j hd0).1 = x0 at hc0
      clear hS hfin hB hO3 hO2 hG3 G3 G2 hR3 hR2 hxl
      go_wp2_with fail
      go_ret
      have hl2 : (hs.set j (d, (hs.getD j hd0).2)).length = j + 1 := by rw [List.length_set]; exact HXL.out
      obtain ⟨I, hcp⟩ := own_ishs HS.out.1 hl2
      exact ⟨some ⟨g, 0, none⟩, cp, hs.set j (d, (hs.getD j hd0).2), by rw [hl2]; rfl, by omega, by omega, I, (fun ad e => by injection e with e; subst e; exact lg), HS.out.2.1, HS.out.2.2⟩
    · have e1 : ((p : Int) == 1) = false := by simp; omega
      have HF := Lib.hid (And.intro (rd_up (P' := P + 20) hR2 (by omega)) G2)
      have HO := Lib.hid hO2
      by_cases p2 : p = 2
      · have e2 : ((p : Int) == 2) = true := by simp [p2]
        have kk : (1 : Int) ≤ (k : Int) := by omega
        clear p0 p1 p2 hp hR2 G2 hO2
        obtain ⟨I, hl1⟩ := drop_ishs HO.out HXL.out (by omega)
        have hc := (own_ishs HO.out HXL.out).2
        have HI := Lib.hid I
        have HL1 := Lib.hid hl1
        clear I hl1
        by_cases c1 : cp = 1
        · subst c1
          obtain rfl : k = 1 := by omega
          go_wp2_with fail
          go_ret
          have hl1 := HL1.out
          have I := HI.out
          rw [if_pos trivial] at I
          exact ⟨some ⟨g, 0, none⟩, 0, hs.drop 1, by rw [hl1]; rfl, by omega, by omega, I, (fun ad e => by injection e with e; subst e; exact lg), HF.out.1, HF.out.2⟩
        · go_wp2_with fail
          go_ret
          have hl1 := HL1.out
          have I := HI.out
          rw [if_neg c1] at I
          exact ⟨some ⟨g, 3, none⟩, cp - 1, hs.drop 1, by rw [hl1]; rfl, by omega, by omega, I, (fun ad e => by injection e with e; subst e; exact lg), HF.out.1, HF.out.2⟩
      · have e2 : ((p : Int) == 2) = false := by simp; omega
        clear p0 p1 p2 hp hR2 G2 hO2
        go_wp2_with fail
        go_ret
        obtain ⟨I, hcp⟩ := own_ishs HO.out HXL.out
        exact ⟨some ⟨g, 0, none⟩, cp, hs, by rw [HXL.out]; rfl, by have := HXL.out; omega, by have := HXL.out; omega, I, (fun ad e => by injection e with e; subst e; exact lg), HF.out.1, HF.out.2⟩
/-- what anOwner leaves -/
def OwnerOf (w : World) (b : Nat) (P : Int) (e : Ending) (w' : World) : Prop := ∃ o : Int, e = .returned (.int .i64 o) ∧ Rd w' b (P + 3) ∧ w.grownBy w' (some b)
theorem anOwner (b : Nat) (P : Int) (a : Option Addr) (cap base : Nat) (hs : List Hd) (w : World) (h : Rd w b P) (hP : P ≤ 70000) (hb : b < w.heap.size) (hi : IsHs w a hs) (hl : hs.length ≤ 1048576) (ha : ∀ ad, a = some ad → base ≤ ad.block) (hbb : b < base) :
    Calls Try.prog 106 #[.pointer (some ⟨b, 0, none⟩), .slice a hs.length cap] w (OwnerOf w b P) := by
  have last : ∀ W, Rd W b (P + 1) → b < W.heap.size → w.grownBy W (some b) → True := fun _ _ _ _ => trivial
  by_cases h0 : hs.length = 0
  · have e0 : decide ((0 : Int) < (hs.length : Int)) = false := decide_eq_false (by omega)
    go_enter Try.func106, Try.ntmps106
    go_wp2_with fail
    refine (one_lit b 7 _ 0 1000 [1, 2, 5, 30, 999, 0, 1000] _ w h (by omega) hb rfl (by omega) (by omega) (by simp)).mono ?_
    rintro e w3 ⟨d, rfl, d0, d1, hR3, hG3⟩
    have HF := Lib.hid (And.intro (rd_up (P' := P + 3) hR3 (by omega)) hG3)
    clear hR3 hG3 h
    go_wp2_with fail
    go_ret
    exact ⟨d, rfl, HF.out.1, HF.out.2⟩
  · have e0 : decide ((0 : Int) < (hs.length : Int)) = true := decide_eq_true (by omega)
    go_enter Try.func106, Try.ntmps106
    go_wp2_with fail
    refine (pick_any b _ 4 _ h (by omega)).mono ?_
    rintro e w2 ⟨p, rfl, hp, hR2, hG2⟩
    have hb2 := Nat.lt_of_lt_of_le hb hG2.size
    clear hp
    by_cases p0 : p = 0
    · have e1 : decide ((0 : Int) < (p : Int)) = false := decide_eq_false (by omega)
      have e2 : decide (0 < p) = false := decide_eq_false (by omega)
      clear p0
      go_wp2_with fail
      refine (one_lit b 7 _ 0 1000 [1, 2, 5, 30, 999, 0, 1000] _ w2 hR2 (by omega) hb2 rfl (by omega) (by omega) (by simp)).mono ?_
      rintro e w3 ⟨d, rfl, d0, d1, hR3, hG3⟩
      have HF := Lib.hid (And.intro (rd_up (P' := P + 3) hR3 (by omega)) (g_trans hG2 hG3))
      clear hR3 hG3 h hR2 hG2
      go_wp2_with fail
      go_ret
      exact ⟨d, rfl, HF.out.1, HF.out.2⟩
    · have e1 : decide ((0 : Int) < (p : Int)) = true := decide_eq_true (by omega)
      have e2 : decide (0 < p) = true := decide_eq_true (by omega)
      clear p0
      go_wp2_with fail
      refine (pick_any b _ (hs.length : Int) _ hR2 (by omega)).mono ?_
      rintro e w3 ⟨u, rfl, hu, hR3, hG3⟩
      have hul : u < hs.length := by omega
      have i3 := hs_grown (hs_grown hi ha hbb hG2) ha hbb hG3
      have HF := Lib.hid (And.intro (rd_up (P' := P + 3) hR3 (by omega)) (g_trans hG2 hG3))
      rcases i3 with rfl | ⟨g, o, rfl, hc⟩
      · simp at hul
      obtain ⟨c0, _, _⟩ := hc u hul
      generalize (hs.getD u hd0).1 = x at c0
      have u0 : (0 : Int) ≤ (u : Int) := by omega
      have u1 : (u : Int) < (hs.length : Int) := by omega
      clear hR3 hG3 h hR2 hG2 hc hu hi
      go_wp2_with fail
      go_ret
      exact ⟨x, rfl, HF.out.1, HF.out.2⟩

def ShareV (w : World) (hs : List Hd) (o : Int) (e : Ending) (w' : World) : Prop := e = .returned (.agg #[.int .i64 (shR hs o).1, .int .i64 (shR hs o).2]) ∧ Below w.heap.size w w'
theorem shR_hit {hs : List Hd} {o : Int} {k : Nat} (hk : k < hs.length) (h : ∀ j, j < k → (hs.getD j hd0).1 ≠ o) {n d : Int} (he : hs.getD k hd0 = (o, n, d)) : shR hs o = (n, d) := by
  rw [shR_at hk h (by rw [he]), he]
theorem ishare (a : Option Addr) (cap : Nat) (hs : List Hd) (o : Int) (w : World) (h : IsHs w a hs) (hn : hs.length ≤ 1048576) :
    Calls Try.prog 68 #[.slice a hs.length cap, .int .i64 o] w (ShareV w hs o) := by
  rcases h with rfl | ⟨g, off, rfl, hc⟩
  · go_enter Try.func68, Try.ntmps68
    go_wp2_with fail
    refine wp_loop_rounds 1 ?_
    rw [rounds_succ]
    go_wp2_with fail
    refine (inoShare _).mono ?_
    rintro e w1 ⟨rfl, hb⟩
    obtain ⟨t0, t1, t2, t3, t4⟩ := blk_two ((Blk.new w 58 #[.int .i64 0, .int .i64 0]).next hb)
    have hB := bel_tr ((Below.refl w.heap.size w).alloc (Nat.le_refl _) _) hb
    clear hb
    go_wp2_with fail
    exact bodyPost_ret (v := .agg #[.int .i64 0, .int .i64 1]) (by simp [results, Try.results68, go_sem, t0, t1]) rfl ⟨rfl, (hB.setCell (by simp) _).setCell (by simp) _⟩
  · have HC := Lib.hid hc
    clear hc
    go_enter Try.func68, Try.ntmps68
    go_wp2_with fail
    go_loopw [9] (fun i wr => ∃ k : Nat, k ≤ hs.length ∧ i = .int .i64 k ∧ Hid (∀ j, j < k → (hs.getD j hd0).1 ≠ o) ∧ Blk wr w.heap.size 58 #[.int .i64 0, .int .i64 0] ∧ Below w.heap.size w wr) (fun i _ => hs.length - (intOf i).toNat)
    case atStart => exact ⟨0, Nat.zero_le _, rfl, fun j hj => by omega, Blk.new _ _ _, by go_grown⟩
    case round =>
      obtain ⟨k, hk, rfl, HK, hS, hB⟩ := hrel
      by_cases hlt : k < hs.length
      · obtain ⟨c0, c1, c2⟩ := cells_at HC.out hB hlt
        have hy : (hs.getD k hd0).1 ≠ o → ∀ j, j < k + 1 → (hs.getD j hd0).1 ≠ o := fun e j hj => by
          by_cases ej : j = k
          · subst ej; exact e
          · exact HK.out j (by omega)
        have hh2 : ∀ n d : Int, hs.getD k hd0 = (o, n, d) → shR hs o = (n, d) := fun n d e => shR_hit hlt HK.out e
        generalize hs.getD k hd0 = hh at c0 c1 c2 hy hh2
        obtain ⟨x, n, d⟩ := hh
        dsimp only at c0 c1 c2 hy
        obtain ⟨t0, t1, t2, t3, t4⟩ := blk_two hS
        have HY := Lib.hid hy
        have HH := Lib.hid hh2
        have HS := Lib.hid hS
        have HB := Lib.hid hB
        clear hy hh2 hS hB
        by_cases hx : x = o
        · have e : (x == o) = true := by simpa using hx
          have HR : Hid (shR hs o = (n, d)) := HH.out n d (by rw [hx])
          clear hx
          go_wp2_with fail
          exact bodyPost_ret (v := .agg #[.int .i64 n, .int .i64 d]) (by simp [results, Try.results68, go_sem, t0, t1, t4]) rfl ⟨by rw [HR.out], (((HB.out.setCell (by simp) _).setCell (by simp) _).alloc (by simpa using HB.out.size) _)⟩
        · have e : (x == o) = false := by simpa using hx
          go_wp2_with fail
          go_roundw
          case rel => exact ⟨k + 1, by omega, by go_num, HY.out hx, HS.out.alloc _, HB.out.alloc HB.out.size _⟩
          case measure => simp [intOf]; omega
      · have HN : Hid (shR hs o = (0, 1)) := shR_none (fun j hj => HK.out j (by omega))
        obtain ⟨t0, t1, t2, t3, t4⟩ := blk_two hS
        go_wp2_with fail
        refine (inoShare _).mono ?_
        rintro e w1 ⟨rfl, hb⟩
        obtain ⟨t0, t1, t2, t3, t4⟩ := blk_two (hS.next hb)
        have hB1 := bel_tr hB hb
        clear hb hS
        go_wp2_with fail
        exact bodyPost_ret (v := .agg #[.int .i64 0, .int .i64 1]) (by simp [results, Try.results68, go_sem, t0, t1]) rfl ⟨by rw [HN.out], (hB1.setCell (by simp) _).setCell (by simp) _⟩
theorem sshare (a : Option Addr) (cap : Nat) (hs : List Hd) (o : Int) (w : World) (h : IsHs w a hs) (hn : hs.length ≤ 1048576) :
    Calls Try.prog 107 #[.slice a hs.length cap, .int .i64 o] w (ShareV w hs o) := by
  rcases h with rfl | ⟨g, off, rfl, hc⟩
  · go_enter Try.func107, Try.ntmps107
    go_wp2_with fail
    refine wp_loop_rounds 1 ?_
    rw [rounds_succ]
    go_wp2_with fail
    exact bodyPost_ret (v := .agg #[.int .i64 0, .int .i64 1]) (by simp [results, Try.results107, go_sem]) rfl ⟨rfl, by go_grown⟩
  · have HC := Lib.hid hc
    clear hc
    go_enter Try.func107, Try.ntmps107
    go_wp2_with fail
    go_loopw [5] (fun i wr => ∃ k : Nat, k ≤ hs.length ∧ i = .int .i64 k ∧ Hid (∀ j, j < k → (hs.getD j hd0).1 ≠ o) ∧ Blk wr w.heap.size 58 #[.int .i64 0, .int .i64 0] ∧ Below w.heap.size w wr) (fun i _ => hs.length - (intOf i).toNat)
    case atStart => exact ⟨0, Nat.zero_le _, rfl, fun j hj => by omega, Blk.new _ _ _, by go_grown⟩
    case round =>
      obtain ⟨k, hk, rfl, HK, hS, hB⟩ := hrel
      by_cases hlt : k < hs.length
      · obtain ⟨c0, c1, c2⟩ := cells_at HC.out hB hlt
        have hy : (hs.getD k hd0).1 ≠ o → ∀ j, j < k + 1 → (hs.getD j hd0).1 ≠ o := fun e j hj => by
          by_cases ej : j = k
          · subst ej; exact e
          · exact HK.out j (by omega)
        have hh2 : ∀ n d : Int, hs.getD k hd0 = (o, n, d) → shR hs o = (n, d) := fun n d e => shR_hit hlt HK.out e
        generalize hs.getD k hd0 = hh at c0 c1 c2 hy hh2
        obtain ⟨x, n, d⟩ := hh
        dsimp only at c0 c1 c2 hy
        obtain ⟨t0, t1, t2, t3, t4⟩ := blk_two hS
        have HY := Lib.hid hy
        have HH := Lib.hid hh2
        have HS := Lib.hid hS
        have HB := Lib.hid hB
        clear hy hh2 hS hB
        by_cases hx : x = o
        · have e : (x == o) = true := by simpa using hx
          have HR : Hid (shR hs o = (n, d)) := HH.out n d (by rw [hx])
          clear hx
          go_wp2_with fail
          exact bodyPost_ret (v := .agg #[.int .i64 n, .int .i64 d]) (by simp [results, Try.results107, go_sem, t0, t1]) rfl ⟨by rw [HR.out], ((HB.out.setCell (by simp) _).setCell (by simp) _)⟩
        · have e : (x == o) = false := by simpa using hx
          go_wp2_with fail
          go_roundw
          case rel => exact ⟨k + 1, by omega, by go_num, HY.out hx, HS.out, HB.out⟩
          case measure => simp [intOf]; omega
      · have HN : Hid (shR hs o = (0, 1)) := shR_none (fun j hj => HK.out j (by omega))
        obtain ⟨t0, t1, t2, t3, t4⟩ := blk_two hS
        go_wp2_with fail
        exact bodyPost_ret (v := .agg #[.int .i64 0, .int .i64 1]) (by simp [results, Try.results107, go_sem, t0, t1]) rfl ⟨by rw [HN.out], (hB.setCell (by simp) _).setCell (by simp) _⟩
theorem cell_next {w w' : World} {p : Addr} {v : Value} (hb : Below w.heap.size w w') (h : w.cell? p = some v) : w'.cell? p = some v := (hb.cell (World.block_lt_of_cell? w _ h)).trans h
theorem keep4 {w w' : World} {p q r s : Addr} {u v x y : Value} (hb : Below w.heap.size w w') (h : w.cell? p = some u ∧ w.cell? q = some v ∧ w.cell? r = some x ∧ w.cell? s = some y) : w'.cell? p = some u ∧ w'.cell? q = some v ∧ w'.cell? r = some x ∧ w'.cell? s = some y := ⟨cell_next hb h.1, cell_next hb h.2.1, cell_next hb h.2.2.1, cell_next hb h.2.2.2⟩
def allQ (hs : List Hd) : Bool := (List.range hs.length).all (fun j => frB (sumQ hs (j + 1)))
/-- a sum of fractions by spec.addFrac, its value known -/
theorem saddQ {an ad bn bd x y : Int} {b : Bool} (w : World) (ha : Wsh.vfB an ad = true) (hb : Wsh.vfB bn bd = true) (hr : Wsh.redB (an * bd + bn * ad) (ad * bd) = b) (hx : Wsh.rn (an * bd + bn * ad) (ad * bd) = x) (hy : Wsh.rd (an * bd + bn * ad) (ad * bd) = y) :
    Calls Try.prog 124 #[.agg #[.int .i64 an, .int .i64 ad], .agg #[.int .i64 bn, .int .i64 bd]] w fun e w' => e = .returned (.tuple #[.agg #[.int .i64 (Wsh.qn b x), .int .i64 (Wsh.qn b y)], .bool b]) ∧ Below w.heap.size w w' := by
  have := sadd an ad bn bd w ha hb
  rw [hr, hx, hy] at this; exact this
def SumV (w : World) (hs : List Hd) (e : Ending) (w' : World) : Prop := e = .returned (.tuple #[.agg #[.int .i64 (Wsh.qn (allQ hs) (sumQ hs hs.length).num), .int .i64 (Wsh.qn (allQ hs) ((sumQ hs hs.length).den : Int))], .bool (allQ hs)]) ∧ Below w.heap.size w w'
theorem ssumOf (a : Option Addr) (cap : Nat) (hs : List Hd) (w : World) (h : IsHs w a hs) (hn : hs.length ≤ 1048576) (hF : allF hs = true) :
    Calls Try.prog 113 #[.slice a hs.length cap] w (SumV w hs) := by
  have HF := Lib.hid ((rng_all _ _).1 hF)
  clear hF
  rcases h with rfl | ⟨g, off, rfl, hc⟩
  · go_enter Try.func113, Try.ntmps113
    go_wp2_with fail
    refine wp_loop_rounds 1 ?_
    rw [rounds_succ]
    go_wp2_with fail
    exact bodyPost_ret (v := .tuple #[.agg #[.int .i64 0, .int .i64 1], .bool true]) (by simp [results, Try.results113, go_sem]) rfl ⟨rfl, by go_grown⟩
  · have HC := Lib.hid hc
    clear hc
    go_enter Try.func113, Try.ntmps113
    go_wp2_with fail
    go_loopw [5, 6] (fun b i wr => ∃ (k : Nat) (c : Bool), k ≤ hs.length ∧ i = .int .i64 k ∧ b = .bool c ∧ Hid (∀ j, j < k → c = true → frB (sumQ hs (j + 1)) = true) ∧ Hid (c = false → ∃ j, j < k ∧ frB (sumQ hs (j + 1)) = false) ∧
        Blk wr w.heap.size 58 #[.int .i64 0, .int .i64 0] ∧ Blk wr (w.heap.size + 1) 58 #[.int .i64 (Wsh.qn c (sumQ hs k).num), .int .i64 (Wsh.qn c ((sumQ hs k).den : Int))] ∧ Below w.heap.size w wr) (fun _ i _ => hs.length - (intOf i).toNat)
    case atStart => exact ⟨0, true, Nat.zero_le _, rfl, rfl, fun j hj => by omega, (fun c => by cases c), (Blk.new _ _ _).alloc _, by have := Blk.new (w.alloc (.cells #[.int .i64 0, .int .i64 0] 58)) 58 #[.int .i64 0, .int .i64 1]; rw [World.size_alloc] at this; exact this, by go_grown⟩
    case round =>
      obtain ⟨k, c, hk, rfl, rfl, HK, HN, hR, hS, hB⟩ := hrel
      cases c with
      | false =>
        have hq : allQ hs = false := by
          obtain ⟨j, hj, hf⟩ := HN.out rfl
          exact rng_no (by omega) hf
        have HQ := Lib.hid hq
        obtain ⟨t0, t1, t2, t3, t4⟩ := blk_two hS
        obtain ⟨r0, r1, r2, r3, r4⟩ := blk_two hR
        clear hq hS hR
        rw [Wsh.qn_false] at t0 t1
        go_wp2_with fail
        all_goals exact bodyPost_ret (v := .tuple #[.agg #[.int .i64 0, .int .i64 0], .bool false]) (by simp [results, Try.results113, go_sem, r0, r1]) rfl ⟨by rw [HQ.out]; rfl, (hB.setCell (by simp) _).setCell (by simp) _⟩
      | true =>
        by_cases hlt : k < hs.length
        · obtain ⟨c0, c1, c2⟩ := cells_at HC.out hB hlt
          have hf := (okF_is (HF.out k hlt)).1
          have sr := sum_red hlt hf
          have qf : Wsh.vfB (sumQ hs k).num ((sumQ hs k).den : Int) = true := by
            cases k with
            | zero => exact q_vf frB_zero
            | succ k => exact q_vf (HK.out k (by omega) rfl)
          have y2 : ∀ c, frB (sumQ hs (k + 1)) = c → (∀ j, j < k + 1 → c = true → frB (sumQ hs (j + 1)) = true) ∧ (c = false → ∃ j, j < k + 1 ∧ frB (sumQ hs (j + 1)) = false) := fun c e => by
            refine ⟨fun j hj ct => ?_, fun cf => ⟨k, by omega, by rw [e, cf]⟩⟩
            by_cases ej : j = k
            · subst ej; rw [e, ct]
            · exact HK.out j (by omega) rfl
          obtain ⟨sr1, sr2, sr3⟩ := sr
          generalize hcc : frB (sumQ hs (k + 1)) = cc at sr1 y2
          have y3 := y2 cc rfl
          generalize hs.getD k hd0 = hh at c0 c1 c2 hf sr1 sr2 sr3
          obtain ⟨x, n, d⟩ := hh
          dsimp only at c0 c1 c2 hf sr1 sr2 sr3
          have A1 := Lib.hid sr1
          have A2 := Lib.hid sr2
          have A3 := Lib.hid sr3
          have A4 := Lib.hid qf
          have A5 := Lib.hid hf
          have A6 := Lib.hid y3
          have HS := Lib.hid hS
          have HR := Lib.hid hR
          have HB := Lib.hid hB
          obtain ⟨t0, t1, t2, t3, t4⟩ := blk_two hS
          clear sr1 sr2 sr3 qf hf y2 y3 hS hR hB hcc
          have hgne : g ≠ w.heap.size + 1 := by have := World.block_lt_of_cell? w _ (HC.out k hlt).1; dsimp only at this; omega
          have i0 : (0 : Int) ≤ (k : Int) := by omega
          have i1 : (k : Int) < (hs.length : Int) := by omega
          go_wp2_with fail
          go_region_with (first | (go_at_call 124; refine (saddQ _ A4.out A5.out A1.out A2.out A3.out).mono ?_; rintro e w3 ⟨rfl, hb⟩; obtain ⟨t0, t1, t2, t3, t4⟩ := blk_two (HS.out.drew.next hb)))
          all_goals (
            have hB3 := bel_tr HB.out.drew hb
            have hR3 := HR.out.drew.next hb
            have hS3 := HS.out.drew.next hb
            go_wp2_with fail
            go_roundw
            case rel => exact ⟨k + 1, cc, by omega, by go_num, rfl, A6.out.1, A6.out.2, (hR3.far (by simp) _).far (by simp) _, hS3.two _ _, (hB3.setCell (by simp) _).setCell (by simp) _⟩
            case measure => simp [intOf]; omega)
        · obtain rfl : hs.length = k := by omega
          have hq : allQ hs = true := rng_yes (fun j hj => HK.out j hj rfl)
          have HQ := Lib.hid hq
          obtain ⟨t0, t1, t2, t3, t4⟩ := blk_two hS
          obtain ⟨r0, r1, r2, r3, r4⟩ := blk_two hR
          clear hq hS hR
          rw [Wsh.qn_true] at t0 t1
          go_wp2_with fail
          exact bodyPost_ret (v := .tuple #[.agg #[.int .i64 (sumQ hs hs.length).num, .int .i64 ((sumQ hs hs.length).den : Int)], .bool true]) (by simp [results, Try.results113, go_sem, r0, r1]) rfl ⟨by rw [HQ.out]; rfl, (hB.setCell (by simp) _).setCell (by simp) _⟩
theorem vf_boolN {n d : Int} (h : Wsh.vfB n d = false) (w : World) : Calls Try.prog 109 #[.agg #[.int .i64 n, .int .i64 d]] w fun e w' => e = .returned (.bool false) ∧ Below w.heap.size w w' := by
  have := svalid n d w
  rw [h] at this; exact this
theorem vf_boolY {n d : Int} (h : Wsh.vfB n d = true) (w : World) : Calls Try.prog 109 #[.agg #[.int .i64 n, .int .i64 d]] w fun e w' => e = .returned (.bool true) ∧ Below w.heap.size w w' := by
  have := svalid n d w
  rw [h] at this; exact this
theorem vl_all {hs : List Hd} (h1 : ascB hs = true) (h2 : allF hs = true) : vlR hs = (allQ hs && decide (sumQ hs hs.length = 1) && decide (hs.length ≤ 12)) := by
  have e : allS hs = allQ hs := by
    unfold allS allQ
    rw [Bool.eq_iff_iff, rng_all, rng_all]
    unfold allF at h2; rw [rng_all] at h2
    exact ⟨fun h j hj => (okS_is (h j hj)).2, fun h j hj => okS_yes (h2 j hj) (h j hj)⟩
  unfold vlR
  rw [h1, e]
  cases allQ hs <;> cases decide (sumQ hs hs.length = 1) <;> cases decide (hs.length ≤ 12) <;> rfl
theorem vl_noF {hs : List Hd} {k : Nat} (hk : k < hs.length) (h : okF hs k = false) : vlR hs = false := vl_no2 hk (okS_no h)
theorem vl_noA {hs : List Hd} {k : Nat} (hk : k < hs.length) (h : okA hs k = false) : vlR hs = false := vl_no1 (rng_no hk h)
section
open Go.ChangeShapes Go.WideShapes Go.RowKit Go.Deep
abbrev Ac := Int × Int
/-- the numbers, one after the other -/
def flatAc : List Ac → List Int
  | [] => []
  | h :: t => h.1 :: h.2 :: flatAc t
end
section
open Go.ChangeShapes Go.WideShapes Go.RowKit Go.Deep
abbrev Tn := Int × Int
/-- the numbers, one after the other -/
def flatTn : List Tn → List Int
  | [] => []
  | h :: t => h.1 :: h.2 :: flatTn t
end

section
open Go.ChangeShapes Go.WideShapes Go.RowKit Go.Deep
abbrev Nd := Int × Int × Int × Int × Int
/-- the numbers, one after the other -/
def flatNd : List Nd → List Int
  | [] => []
  | h :: t => h.1 :: h.2.1 :: h.2.2.1 :: h.2.2.2.1 :: h.2.2.2.2 :: flatNd t
end

def giveH (held c w : Int) : Int := min w (held + c)
def stepH (room held c w : Int) : Int := min room (held + c - giveH held c w)
def spillH (room held c w : Int) : Int := held + c - giveH held c w - stepH room held c w
/-- hours: what comes and what is wanted -/
abbrev Hrs := List (Int × Int)
def endB (room : Int) : Int → Hrs → Int
  | h, [] => h
  | h, x :: t => endB room (stepH room h x.1 x.2) t
def giveB (room : Int) : Int → Hrs → Int
  | _, [] => 0
  | h, x :: t => giveH h x.1 x.2 + giveB room (stepH room h x.1 x.2) t
def spillB (room : Int) : Int → Hrs → Int
  | _, [] => 0
  | h, x :: t => spillH room h x.1 x.2 + spillB room (stepH room h x.1 x.2) t
def comeS : Hrs → Int
  | [] => 0
  | x :: t => x.1 + comeS t
/-- P68: all water is accounted for -/
theorem water (room : Int) : ∀ (l : Hrs) (h : Int), h + comeS l = giveB room h l + spillB room h l + endB room h l := by
  intro l
  induction l with
  | nil => intro h; show h + 0 = 0 + 0 + h; omega
  | cons x t ih =>
    intro h
    have := ih (stepH room h x.1 x.2)
    show h + (x.1 + comeS t) = (giveH h x.1 x.2 + giveB room _ t) + (spillH room h x.1 x.2 + spillB room _ t) + endB room _ t
    unfold spillH
    omega

/-- a town -/
structure Tw where
  hs : List Hd
  ts : List Tn
  ns : List Nd
  r : Int
  hd : Int
  ac : List Ac
  rt : Int
  tm : Int
  ls : Int
  cm : Int
/-- where the lists of a town lie -/
structure TA where
  a1 : Option Addr
  c1 : Nat
  a2 : Option Addr
  c2 : Nat
  a3 : Option Addr
  c3 : Nat
  a4 : Option Addr
  c4 : Nat
/-- a town whose lists are rows of the call's own -/
structure TwO (w : World) (base : Nat) (p : TA) (t : Tw) : Prop where
  o1 : RowF w base 91 (.slice p.a1 t.hs.length p.c1) t.hs.length (flatH t.hs)
  n1 : t.hs.length ≤ 1048576
  o2 : RowF w base 110 (.slice p.a2 t.ts.length p.c2) t.ts.length (flatTn t.ts)
  n2 : t.ts.length ≤ 1048576
  o3 : RowF w base 149 (.slice p.a3 t.ns.length p.c3) t.ns.length (flatNd t.ns)
  n3 : t.ns.length ≤ 1048576
  o4 : RowF w base 53 (.slice p.a4 t.ac.length p.c4) t.ac.length (flatAc t.ac)
  n4 : t.ac.length ≤ 1048576


/-- a deed as its numbers -/
structure Dd where
  k : Int
  o : Int
  t : Int
  n : Int
  d : Int
  zs : List Int
def dd0 : Dd := ⟨0, 0, 0, 0, 0, []⟩

theorem row_of_below {w w' : World} {base n size : Nat} {e : TypeId} {v : Value} {xs : List Value} (h : w.ownsRow base e size v n xs) (hb : Below w.heap.size w w') : w'.ownsRow base e size v n xs := by
  refine ⟨h.1, ?_⟩
  rcases h.2 with h | ⟨g, cap, cur, a, b, c, d⟩
  · exact .inl h
  · exact .inr ⟨g, cap, cur, a, b, (hb.block g (Array.getElem?_eq_some_iff.1 c).1).trans c, d⟩
theorem getD_snocE {α : Type} (l : List α) (a d : α) (j : Nat) : (l ++ [a]).getD j d = if j < l.length then l.getD j d else if j = l.length then a else d := by
  rw [List.getD_eq_getElem?_getD, List.getD_eq_getElem?_getD]
  by_cases h : j < l.length
  · rw [if_pos h, List.getElem?_append_left h]
  · rw [if_neg h, List.getElem?_append_right (by omega)]
    by_cases h2 : j = l.length
    · rw [if_pos h2, h2, Nat.sub_self]; rfl
    · rw [if_neg h2, List.getElem?_eq_none (by simp; omega)]; rfl
theorem ints_grownE {w w' : World} {A : Option Addr} {zs : List Int} {row : Option Nat} (h : IsInts w A zs) (hg : w.grownBy w' row) (hlt : ∀ g o s, A = some ⟨g, o, s⟩ → g < w.heap.size ∧ row ≠ some g) : IsInts w' A zs := by
  rcases h with h | ⟨g, o, rfl, hc⟩
  · exact .inl h
  · obtain ⟨h1, h2⟩ := hlt g o none rfl
    refine .inr ⟨g, o, rfl, fun i hi => ?_⟩
    exact hg.cell (hc i hi) (fun c => h2 c.symm)
/-- heirs that lie somewhere above base, not in block ex -/
def Hrz (w : World) (base : Nat) (ex : Option Nat) (u : Value) (zs : List Int) : Prop := ∃ (A : Option Addr) (cz : Nat), u = .slice A zs.length cz ∧ IsInts w A zs ∧ zs.length ≤ cz ∧ (zs ≠ [] → ∀ g o s, A = some ⟨g, o, s⟩ → base ≤ g ∧ g < w.heap.size ∧ ex ≠ some g)
theorem Hrz.next {w w' : World} {base : Nat} {ex : Option Nat} {u : Value} {zs : List Int} (h : Hrz w base ex u zs) (hb : Below w.heap.size w w') : Hrz w' base ex u zs := by
  obtain ⟨A, cz, hu, hI, hl, ha⟩ := h
  exact ⟨A, cz, hu, ints_below hI hb, hl, fun hz g o s e => ⟨(ha hz g o s e).1, Nat.lt_of_lt_of_le (ha hz g o s e).2.1 hb.size, (ha hz g o s e).2.2⟩⟩
theorem Hrz.far {w w' : World} {base b : Nat} {ex : Option Nat} {u : Value} {zs : List Int} (h : Hrz w base ex u zs) (hG : w.grownBy w' (some b)) (hb : b < base) : Hrz w' base ex u zs := by
  obtain ⟨A, cz, hu, hI, hl, ha⟩ := h
  by_cases hz : zs = []
  · exact ⟨A, cz, hu, .inl hz, hl, fun c => absurd hz c⟩
  exact ⟨A, cz, hu, ints_grownE hI hG (fun g o s e => ⟨(ha hz g o s e).2.1, fun c => by injection c with c; have := (ha hz g o s e).1; omega⟩), hl, fun _ g o s e => ⟨(ha hz g o s e).1, Nat.lt_of_lt_of_le (ha hz g o s e).2.1 hG.size, (ha hz g o s e).2.2⟩⟩
theorem hrz_of {w : World} {base B cz : Nat} {A : Option Addr} {v : Value} {zs : List Int} (hI : IsInts w A zs) (hl : zs.length ≤ cz) (ha : ∀ ad, A = some ad → B ≤ ad.block) (hB : base ≤ B) (hv : ∀ q, v.ownBlock = some q → q < B) : Hrz w base v.ownBlock (.slice A zs.length cz) zs := by
  refine ⟨A, cz, rfl, hI, hl, fun hz g o s e => ⟨Nat.le_trans hB (ha _ e), ?_, fun c => ?_⟩⟩
  · rcases hI with h | ⟨g', o', e', hc⟩
    · exact absurd h hz
    · rw [e] at e'; injection e' with e'; injection e' with e1 _ _; subst e1
      exact World.block_lt_of_cell? w _ (hc 0 (List.length_pos_iff.2 hz))
  · have := hv g c; have := ha _ e; dsimp only at this; omega

/-- one lease, as the model makes it: first the owner has less, then the tenant more -/
theorem sold_two {L : Led} (ha : Asc L) {f t : Int} (hft : t ≠ f) (p : Rat) : setL (setL L f (shareL L f - p)) t (shareL (setL L f (shareL L f - p)) t + p) = soldL L f t p := by
  unfold soldL
  rw [share_set ha, if_neg hft]
/-- a deed in memory -/
def IsDd (w : World) (g p : Nat) (x : Dd) : Prop := ∃ (A : Option Addr) (cz : Nat), w.cell? ⟨g, p, none⟩ = some (.int .i64 x.k) ∧ w.cell? ⟨g, p + 1, none⟩ = some (.int .i64 x.o) ∧ w.cell? ⟨g, p + 2, none⟩ = some (.int .i64 x.t) ∧ w.cell? ⟨g, p + 3, none⟩ = some (.int .i64 x.n) ∧ w.cell? ⟨g, p + 4, none⟩ = some (.int .i64 x.d) ∧ w.cell? ⟨g, p + 5, none⟩ = some (.slice A x.zs.length cz) ∧ IsInts w A x.zs ∧ x.zs.length ≤ 1048576 ∧ x.zs.length ≤ cz
theorem dd_below {w w' : World} {g p : Nat} {x : Dd} (h : IsDd w g p x) (hB : Below w.heap.size w w') : IsDd w' g p x := by
  obtain ⟨A, cz, c0, c1, c2, c3, c4, c5, hi, hn, hc⟩ := h
  have kp : ∀ q v, w.cell? ⟨g, q, none⟩ = some v → w'.cell? ⟨g, q, none⟩ = some v := fun q v c => (hB.cell (p := ⟨g, q, none⟩) (World.block_lt_of_cell? w _ c)).trans c
  exact ⟨A, cz, kp _ _ c0, kp _ _ c1, kp _ _ c2, kp _ _ c3, kp _ _ c4, kp _ _ c5, ints_below hi hB, hn, hc⟩
/-- deeds, read through a slice at address a -/
def IsDds (w : World) (a : Option Addr) (ds : List Dd) : Prop := ds = [] ∨ ∃ g o, a = some ⟨g, o, none⟩ ∧ ∀ i, i < ds.length → IsDd w g (o + i * 6) (ds.getD i dd0)
theorem dds_below {w w' : World} {a : Option Addr} {ds : List Dd} (h : IsDds w a ds) (hB : Below w.heap.size w w') : IsDds w' a ds := by
  rcases h with h | ⟨g, o, ha, hc⟩
  · exact .inl h
  · exact .inr ⟨g, o, ha, fun i hi => dd_below (hc i hi) hB⟩
theorem infoDd : (Try.prog.info? 61).map (fun i => (i.zero, i.size, i.bytes)) = some (some (.agg #[.int .i64 0, .int .i64 0, .int .i64 0, .int .i64 0, .int .i64 0, .slice none 0 0]), 6, 64) := by kernel_rfl
def edC (v : Value) (x : Dd) : List Value := [.int .i64 x.k, .int .i64 x.o, .int .i64 x.t, .int .i64 x.n, .int .i64 x.d, v]
def rowD (V : List Value) (es : List Dd) : List Value := (List.zipWith edC V es).flatten
theorem rowD_snoc {V : List Value} {es : List Dd} (h : V.length = es.length) (v : Value) (x : Dd) : rowD (V ++ [v]) (es ++ [x]) = rowD V es ++ edC v x := by
  unfold rowD
  rw [List.zipWith_append h, List.flatten_append]; simp
theorem rowD_get : ∀ (es : List Dd) (V : List Value), V.length = es.length → ∀ j q, j < es.length → q < 6 → (rowD V es)[j * 6 + q]? = (edC (V.getD j undef) (es.getD j dd0))[q]? := by
  intro es
  induction es with
  | nil => intro V _ j q hj _; exact absurd hj (Nat.not_lt_zero _)
  | cons x t ih =>
    intro V hV j q hj hq
    match V, hV with
    | v :: r, hV =>
    have hr : r.length = t.length := by simpa using hV
    have e : rowD (v :: r) (x :: t) = edC v x ++ rowD r t := rfl
    have hl : (edC v x).length = 6 := rfl
    rw [e]
    cases j with
    | zero => rw [Nat.zero_mul, Nat.zero_add, List.getElem?_append_left (by rw [hl]; exact hq)]; rfl
    | succ j =>
      rw [List.getElem?_append_right (by rw [hl]; omega), hl, show (j + 1) * 6 + q - 6 = j * 6 + q from by omega, ih r hr j q (by simpa using hj) hq]
      rfl
structure OwnDz (w : World) (base : Nat) (v : Value) (es : List Dd) (V : List Value) : Prop where
  len : V.length = es.length
  row : w.ownsRow base 61 6 v es.length (rowD V es)
  own : ∀ j, j < es.length → Hrz w base v.ownBlock (V.getD j undef) (es.getD j dd0).zs
theorem ownDz_new {w W : World} (h : Below w.heap.size w W) : OwnDz (W.alloc (.cells #[] 61)) w.heap.size (.slice (some ⟨W.heap.size, 0, none⟩) 0 0) [] [] :=
  ⟨rfl, ⟨by simp [rowD], .inr ⟨W.heap.size, 0, #[], rfl, h.size, Go.Deep.blk_alloc_new _ _, Nat.le_refl _, by unfold maxLen; omega, rfl, rfl⟩⟩, fun j hj => absurd hj (Nat.not_lt_zero _)⟩
theorem OwnDz.next {w w' : World} {base : Nat} {v : Value} {es : List Dd} {V : List Value} (h : OwnDz w base v es V) (hb : Below w.heap.size w w') : OwnDz w' base v es V :=
  ⟨h.len, row_of_below h.row hb, fun j hj => (h.own j hj).next hb⟩
theorem OwnDz.forms {w : World} {base : Nat} {v : Value} {es : List Dd} {V : List Value} (h : OwnDz w base v es V) : ∃ b k, v = .slice b es.length k := by
  rcases Go.Joins.ownsRow_forms h.row with ⟨e, hn⟩ | ⟨g, c, e⟩
  · exact ⟨none, 0, by rw [hn]; exact e⟩
  · exact ⟨_, c, e⟩
theorem OwnDz.far {w w' : World} {base b : Nat} {v : Value} {es : List Dd} {V : List Value} (h : OwnDz w base v es V) (hG : w.grownBy w' (some b)) (hb : b < base) : OwnDz w' base v es V :=
  ⟨h.len, World.ownsRow.kept h.row hG (.inr (by intro c; have := (World.ownsRow.lt h.row b c).1; omega)), fun j hj => (h.own j hj).far hG hb⟩
theorem OwnDz.lt {w : World} {base : Nat} {v : Value} {es : List Dd} {V : List Value} (h : OwnDz w base v es V) : ∀ q, v.ownBlock = some q → q < w.heap.size := fun q e => (World.ownsRow.lt h.row q e).2
/-- one more -/
theorem OwnDz.snocG {U w2 : World} {base : Nat} {v v2 vz : Value} {es : List Dd} {V : List Value} {x : Dd} (h : OwnDz U base v es V) (hz : Hrz U base v.ownBlock vz x.zs) (hr : w2.ownsRow base 61 6 v2 (es.length + 1) (rowD V es ++ edC vz x)) (hg : U.grownBy w2 v.ownBlock) (hat : v2.ownBlock = v.ownBlock ∨ v2.ownBlock = some U.heap.size) : OwnDz w2 base v2 (es ++ [x]) (V ++ [vz]) := by
  have hVe := h.len
  have hgz := hg.size
  have old : ∀ u zs, Hrz U base v.ownBlock u zs → Hrz w2 base v2.ownBlock u zs := fun u zs hh => by
    obtain ⟨A, cz, hu, hI, hl, ha⟩ := hh
    by_cases hz : zs = []
    · exact ⟨A, cz, hu, .inl hz, hl, fun c => absurd hz c⟩
    refine ⟨A, cz, hu, ints_grownE hI hg (fun g o s e => ⟨(ha hz g o s e).2.1, (ha hz g o s e).2.2⟩), hl, fun _ g o s e => ⟨(ha hz g o s e).1, Nat.lt_of_lt_of_le (ha hz g o s e).2.1 hgz, ?_⟩⟩
    rcases hat with q | q
    · rw [q]; exact (ha hz g o s e).2.2
    · rw [q]; intro c; injection c with c; have := (ha hz g o s e).2.1; omega
  refine ⟨by simp [h.len], by rw [rowD_snoc h.len, List.length_append]; exact hr, fun j hj => ?_⟩
  rw [getD_snocE, getD_snocE, hVe]
  by_cases hl : j < es.length
  · rw [if_pos hl, if_pos hl]
    exact old _ _ (h.own j hl)
  · have : j = es.length := by simp at hj; omega
    rw [if_neg hl, if_neg hl, if_pos this, if_pos this]
    exact old _ _ hz
theorem OwnDz.isb {w : World} {base k : Nat} {b : Option Addr} {es : List Dd} {V : List Value} (h : OwnDz w base (.slice b es.length k) es V) (hn : ∀ j, j < es.length → (es.getD j dd0).zs.length ≤ 1048576) : IsDds w b es := by
  rcases h.row.2 with ⟨e, h0⟩ | ⟨g, cap, cur, e, _⟩
  · exact .inl (List.eq_nil_of_length_eq_zero h0)
  · injection e with e1 e2 e3
    subst e1
    refine .inr ⟨g, 0, rfl, fun i hi => ?_⟩
    have key : ∀ q, q < 6 → w.cell? ⟨g, 0 + i * 6 + q, none⟩ = (edC (V.getD i undef) (es.getD i dd0))[q]? := fun q hq => by
      rw [Nat.zero_add, World.ownsRow.cellAt h.row (i * 6 + q) (by omega), rowD_get es V h.len i q hi hq]
    obtain ⟨A, cz, hv, hI, hle, _⟩ := h.own i hi
    rw [hv] at key
    exact ⟨A, cz, key 0 (by omega), key 1 (by omega), key 2 (by omega), key 3 (by omega), key 4 (by omega), key 5 (by omega), hI, hn i hi, hle⟩
theorem hs_at {w W : World} {g o : Nat} {hs : List Hd} (hc : ∀ i, i < hs.length → w.cell? ⟨g, o + i * 3, none⟩ = some (.int .i64 (hs.getD i hd0).1) ∧ w.cell? ⟨g, o + i * 3 + 1, none⟩ = some (.int .i64 (hs.getD i hd0).2.1) ∧ w.cell? ⟨g, o + i * 3 + 2, none⟩ = some (.int .i64 (hs.getD i hd0).2.2)) (hB : Below w.heap.size w W) {k : Nat} (hk : k < hs.length) : W.cell? ⟨g, o + k * 3, none⟩ = some (.int .i64 (hs.getD k hd0).1) ∧ W.cell? ⟨g, o + k * 3 + 1, none⟩ = some (.int .i64 (hs.getD k hd0).2.1) ∧ W.cell? ⟨g, o + k * 3 + 2, none⟩ = some (.int .i64 (hs.getD k hd0).2.2) := by
  obtain ⟨c0, c1, c2⟩ := hc k hk
  exact ⟨(hB.cell (World.block_lt_of_cell? w _ c0)).trans c0, (hB.cell (World.block_lt_of_cell? w _ c1)).trans c1, (hB.cell (World.block_lt_of_cell? w _ c2)).trans c2⟩
theorem eqHd (a b : Option Addr) (ca cb : Nat) (xs : List Hd) (w : World) (ha : IsHs w a xs) (hb : IsHs w b xs) (hn : xs.length ≤ 1048576) :
    Calls Try.prog 15 #[.slice a xs.length ca, .slice b xs.length cb] w fun e w' => e = .returned (.bool true) ∧ Below w.heap.size w w' := by
  rcases ha with rfl | ⟨g, o, rfl, hc⟩
  · go_enter Try.func15, Try.ntmps15
    go_wp2
    go_rounds 1
    go_ret
    exact ⟨rfl, by go_grown⟩
  · rcases hb with rfl | ⟨g2, o2, rfl, hc2⟩
    · go_enter Try.func15, Try.ntmps15
      go_wp2
      go_rounds 1
      go_ret
      exact ⟨rfl, by go_grown⟩
    · have HC := Lib.hid hc
      have HD := Lib.hid hc2
      clear hc hc2
      go_enter Try.func15, Try.ntmps15
      go_wp2
      go_loopw [5] (fun i wr => ∃ k : Nat, k ≤ xs.length ∧ i = .int .i64 k ∧ Below w.heap.size w wr) (fun i _ => xs.length - (intOf i).toNat)
      case atStart => exact ⟨0, Nat.zero_le _, rfl, by go_grown⟩
      case round =>
        obtain ⟨k, hk, rfl, hB⟩ := hrel
        by_cases hlt : k < xs.length
        · obtain ⟨c0, c1, c2⟩ := hs_at HC.out hB hlt
          obtain ⟨d0, d1, d2⟩ := hs_at HD.out hB hlt
          generalize xs.getD k hd0 = hh at c0 c1 c2 d0 d1 d2
          obtain ⟨x0, x1, x2⟩ := hh
          dsimp only at c0 c1 c2 d0 d1 d2
          have HB := Lib.hid hB
          clear hB
          have i0 : (0 : Int) ≤ (k : Int) := by omega
          have i1 : (k : Int) < (xs.length : Int) := by omega
          go_wp2_with fail
          go_quiet (fail)
          go_wp2_with fail
          go_roundw
          case rel => exact ⟨k + 1, by omega, by go_num, below_drewN HB.out _⟩
          case measure => simp [intOf]; omega
        · obtain rfl : k = xs.length := by omega
          go_wp2_with fail
          go_ret
          exact ⟨rfl, hB⟩



end Go.Proofs.Ytaehemmjemhgpaa
