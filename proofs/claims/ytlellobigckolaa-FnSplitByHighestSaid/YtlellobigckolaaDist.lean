/- DistanceOf, impl's and spec's. Condition: at most 1048576 numbers in each slice. -/
import Derived.Test.YtlellobigckolaaWeights
import Derived.Test.YtlellobigckolaaOwnInts
import Derived.WalkLawsBesides
namespace Go.Proofs.Ytlellobigckolaa
open Go.RowKit

theorem sum_bdm (zs : List Int) (m : Int) (h : allB zs m = true) : ∀ k, k ≤ zs.length → 0 ≤ (zs.take k).sum ∧ (zs.take k).sum ≤ m * (k : Int) := by
  intro k
  induction k with
  | zero => intro _; simp
  | succ k ih =>
    intro hk
    have h1 := ih (by omega)
    have h2 := (allB_iff zs m).1 h _ (getD_mem (k := k) (by omega))
    rw [take_sum zs k (by omega)]
    have h3 : m * ((k + 1 : Nat) : Int) = m * (k : Int) + m := by rw [Int.natCast_add, Int.mul_add]; simp
    rw [h3]; omega
theorem sum_all {zs : List Int} {m : Int} (h : allB zs m = true) : 0 ≤ zs.sum ∧ zs.sum ≤ m * (zs.length : Int) := by
  have := sum_bdm zs m h zs.length (Nat.le_refl _)
  rwa [List.take_of_length_le (Nat.le_refl _)] at this

def absd (a b : Int) : Int := if a < b then b - a else a - b
theorem absd_lt {a b : Int} (h : a < b) : absd a b = b - a := if_pos h
theorem absd_ge {a b : Int} (h : ¬ a < b) : absd a b = a - b := if_neg h
def dterm (gs ws : List Int) (k : Nat) : Int := absd (gs.getD k 0 * ws.sum) (ws.getD k 0 * gs.sum)
def distTo (gs ws : List Int) : Nat → Int
  | 0 => 0
  | k + 1 => distTo gs ws k + dterm gs ws k
/-- what DistanceOf returns -/
def distI (gs ws : List Int) : Int := if vwB ws && decide (gs.length = ws.length) && allB gs 500 && decide (gs.sum ≤ 500) then distTo gs ws gs.length else -1
theorem dist_no1 {gs ws : List Int} (h : vwB ws = false) : distI gs ws = -1 := by unfold distI; rw [h]; rfl
theorem dist_no2 {gs ws : List Int} (h : gs.length ≠ ws.length) : distI gs ws = -1 := by unfold distI; rw [decide_eq_false h]; simp
theorem dist_no3 {gs ws : List Int} (h : allB gs 500 = false) : distI gs ws = -1 := by unfold distI; rw [h]; simp
theorem dist_no4 {gs ws : List Int} (h : 500 < gs.sum) : distI gs ws = -1 := by unfold distI; rw [decide_eq_false (by omega : ¬ gs.sum ≤ 500)]; simp
theorem dist_yes {gs ws : List Int} (h1 : vwB ws = true) (h2 : gs.length = ws.length) (h3 : allB gs 500 = true) (h4 : gs.sum ≤ 500) : distI gs ws = distTo gs ws gs.length := by
  unfold distI; rw [h1, h3, decide_eq_true h2, decide_eq_true h4]; rfl
/-- what holds of valid divisions -/
structure Div (gs ws : List Int) : Prop where
  len : gs.length = ws.length
  le : ws.length ≤ 12
  g : allB gs 500 = true
  w : allB ws 1000 = true
  gs0 : 0 ≤ gs.sum
  gs1 : gs.sum ≤ 500
  ws0 : 0 ≤ ws.sum
  ws1 : ws.sum ≤ 12000
theorem div_of {gs ws : List Int} (h1 : vwB ws = true) (h2 : gs.length = ws.length) (h3 : allB gs 500 = true) (h4 : gs.sum ≤ 500) : Div gs ws := by
  obtain ⟨a, b, c⟩ := vw_is h1
  have e := sum_all a
  exact ⟨h2, b, h3, a, (sum_all h3).1, h4, e.1, by omega⟩
theorem prod_bd {gs ws : List Int} (d : Div gs ws) {k : Nat} (hk : k < gs.length) : 0 ≤ gs.getD k 0 ∧ gs.getD k 0 ≤ 500 ∧ 0 ≤ ws.getD k 0 ∧ ws.getD k 0 ≤ 1000 ∧ 0 ≤ gs.getD k 0 * ws.sum ∧ gs.getD k 0 * ws.sum ≤ 6000000 ∧ 0 ≤ ws.getD k 0 * gs.sum ∧ ws.getD k 0 * gs.sum ≤ 500000 := by
  have a := (allB_iff gs 500).1 d.g _ (getD_mem hk)
  have b := (allB_iff ws 1000).1 d.w _ (getD_mem (k := k) (by rw [← d.len]; exact hk))
  exact ⟨a.1, a.2, b.1, b.2, Int.mul_nonneg a.1 d.ws0, Int.le_trans (Int.mul_le_mul a.2 d.ws1 d.ws0 (by omega)) (by omega), Int.mul_nonneg b.1 d.gs0, Int.le_trans (Int.mul_le_mul b.2 d.gs1 d.gs0 (by omega)) (by omega)⟩
theorem dist_bd {gs ws : List Int} (d : Div gs ws) : ∀ k, k ≤ gs.length → 0 ≤ distTo gs ws k ∧ distTo gs ws k ≤ 7000000 * (k : Int) := by
  intro k
  induction k with
  | zero => intro _; exact ⟨Int.le_refl _, by simp [distTo]⟩
  | succ k ih =>
    intro hk
    have h1 := ih (by omega)
    obtain ⟨_, _, _, _, a, b, c, e⟩ := prod_bd d (k := k) (by omega)
    show 0 ≤ distTo gs ws k + absd _ _ ∧ distTo gs ws k + absd _ _ ≤ _
    unfold absd
    split <;> omega

/-- impl.difference -/
theorem idiff (a b : Int) (w : World) (ha : 0 ≤ a ∧ a ≤ 10000000) (hb : 0 ≤ b ∧ b ≤ 10000000) :
    Calls Try.prog 57 #[.int .i64 a, .int .i64 b] w fun e w' => e = .returned (.int .i64 (absd a b)) ∧ w = w' := by
  obtain ⟨a0, a1⟩ := ha
  obtain ⟨b0, b1⟩ := hb
  by_cases h : a < b
  · go_enter Try.func57, Try.ntmps57
    go_wp2
    go_ret
    exact ⟨ret_int (absd_lt h).symm, rfl⟩
  · go_enter Try.func57, Try.ntmps57
    go_wp2
    go_ret
    exact ⟨ret_int (absd_ge (by omega)).symm, rfl⟩

set_option maxHeartbeats 2000000 in
/-- impl.DistanceOf -/
theorem idist (a b : Option Addr) (ca cb : Nat) (gs ws : List Int) (w : World) (ha : IsInts w a gs) (hb : IsInts w b ws) (hn : gs.length ≤ 1048576) (hm : ws.length ≤ 1048576) :
    Calls Try.prog 32 #[.slice a gs.length ca, .slice b ws.length cb] w fun e w' => e = .returned (.int .i64 (distI gs ws)) ∧ w = w' := by
  cases h1 : vwB ws with
  | false =>
    have HN := Lib.hid (dist_no1 (gs := gs) h1)
    go_enter Try.func32, Try.ntmps32
    go_wp2_with fail
    refine (iVW b cb ws _ hb hm).mono ?_
    rintro e w' ⟨rfl, rfl⟩
    go_wp2_with fail
    go_ret
    exact ⟨ret_int HN.out.symm, rfl⟩
  | true =>
    by_cases h2 : gs.length = ws.length
    · have e2 : ((gs.length : Int) != (ws.length : Int)) = false := by rw [h2]; simp
      have H2 := Lib.hid h2
      clear h2
      cases h3 : allB gs 500 with
      | false =>
        have HN := Lib.hid (dist_no3 (ws := ws) h3)
        go_enter Try.func32, Try.ntmps32
        go_wp2_with fail
        refine (iVW b cb ws _ hb hm).mono ?_
        rintro e w' ⟨rfl, rfl⟩
        go_wp2_with fail
        refine (iall a ca gs 500 _ ha hn).mono ?_
        rintro e w' ⟨rfl, rfl⟩
        go_wp2_with fail
        go_ret
        exact ⟨ret_int HN.out.symm, rfl⟩
      | true =>
        have HG := Lib.hid (all_bd h3 (by omega))
        by_cases h4 : 500 < gs.sum
        · have HN := Lib.hid (dist_no4 (ws := ws) h4)
          go_enter Try.func32, Try.ntmps32
          go_wp2_with fail
          refine (iVW b cb ws _ hb hm).mono ?_
          rintro e w' ⟨rfl, rfl⟩
          go_wp2_with fail
          refine (iall a ca gs 500 _ ha hn).mono ?_
          rintro e w' ⟨rfl, rfl⟩
          go_wp2_with fail
          refine (isum a ca gs _ ha hn HG.out).mono ?_
          rintro e w' ⟨rfl, rfl⟩
          go_wp2_with fail
          go_ret
          exact ⟨ret_int HN.out.symm, rfl⟩
        · have D := div_of h1 H2.out h3 (by omega)
          have HY := Lib.hid (dist_yes h1 H2.out h3 (by omega))
          have HW := Lib.hid (all_bd (vw_is h1).1 (by omega))
          have HB := Lib.hid (dist_bd D)
          obtain ⟨d1, d2, d3, d4, g0, g1, s0, s1⟩ := D
          have HD := Lib.hid (Div.mk d1 d2 d3 d4 g0 g1 s0 s1)
          clear d1 d3 d4
          rcases ha with rfl | ⟨g, o, rfl, hc⟩
          · exact absurd (vw_is h1).2.2 (by have := H2.out; simp at this; rw [List.eq_nil_of_length_eq_zero this.symm]; simp)
          · rcases hb with rfl | ⟨g', o', rfl, hc'⟩
            · exact absurd (vw_is h1).2.2 (by simp)
            · have HC := Lib.hid hc
              have HC' := Lib.hid hc'
              clear hc hc'
              go_enter Try.func32, Try.ntmps32
              go_wp2_with fail
              refine (iVW _ cb ws _ (.inr ⟨g', o', rfl, HC'.out⟩) hm).mono ?_
              rintro e w' ⟨rfl, rfl⟩
              go_wp2_with fail
              refine (iall _ ca gs 500 _ (.inr ⟨g, o, rfl, HC.out⟩) hn).mono ?_
              rintro e w' ⟨rfl, rfl⟩
              go_wp2_with fail
              refine (isum _ ca gs _ (.inr ⟨g, o, rfl, HC.out⟩) hn HG.out).mono ?_
              rintro e w' ⟨rfl, rfl⟩
              go_wp2_with fail
              refine (isum _ cb ws _ (.inr ⟨g', o', rfl, HC'.out⟩) hm HW.out).mono ?_
              rintro e w' ⟨rfl, rfl⟩
              go_wp2_with fail
              go_loop [7, 33] (fun s i => ∃ k : Nat, k ≤ ws.length ∧ i = .int .i64 k ∧ s = .int .i64 (distTo gs ws k)) (fun _ i => ws.length - (intOf i).toNat)
              case atStart => exact ⟨0, Nat.zero_le _, rfl, rfl⟩
              case round =>
                obtain ⟨k, hk, rfl, rfl⟩ := hrel
                have HL := HD.out.len
                obtain ⟨b0, b1⟩ := HB.out k (by omega)
                have HL' := Lib.hid HL
                clear HL
                by_cases hlt : k < ws.length
                · have hg : k < gs.length := by rw [HL'.out]; exact hlt
                  have hc := HC.out k hg
                  have hc' := HC'.out k hlt
                  obtain ⟨q1, q2, q3, q4, q5, q6, q7, q8⟩ := prod_bd HD.out hg
                  have HS : Hid (distTo gs ws (k + 1) = distTo gs ws k + absd (gs.getD k 0 * ws.sum) (ws.getD k 0 * gs.sum)) := rfl
                  have i1 : (k : Int) < (gs.length : Int) := by omega
                  have i2 : (k : Int) < (ws.length : Int) := by omega
                  generalize gs.getD k 0 = y at hc q1 q2 q5 q6 HS
                  generalize ws.getD k 0 = z at hc' q3 q4 q7 q8 HS
                  go_wp2_with fail
                  refine (idiff _ _ _ ⟨q5, by omega⟩ ⟨q7, by omega⟩).mono ?_
                  rintro e w' ⟨rfl, rfl⟩
                  have HA : 0 ≤ absd (y * ws.sum) (z * gs.sum) ∧ absd (y * ws.sum) (z * gs.sum) ≤ 10000000 := by unfold absd; split <;> omega
                  obtain ⟨a0, a1⟩ := HA
                  go_wp2_with fail
                  go_round
                  case rel => exact ⟨k + 1, by omega, by go_num, by rw [HS.out]⟩
                  case measure => simp [intOf]; omega
                · go_wp2_with fail
                  go_ret
                  exact ⟨ret_int (by rw [HY.out, HL'.out, show k = ws.length from by omega]), rfl⟩
    · have e2 : ((gs.length : Int) != (ws.length : Int)) = true := by simp; omega
      have HN := Lib.hid (dist_no2 h2)
      clear h2
      go_enter Try.func32, Try.ntmps32
      go_wp2_with fail
      refine (iVW b cb ws _ hb hm).mono ?_
      rintro e w' ⟨rfl, rfl⟩
      go_wp2_with fail
      go_ret
      exact ⟨ret_int HN.out.symm, rfl⟩

theorem dterm_comm (gs ws : List Int) (k : Nat) : distTo gs ws (k + 1) = distTo gs ws k + absd (gs.getD k 0 * ws.sum) (gs.sum * ws.getD k 0) := by
  rw [Int.mul_comm gs.sum]; rfl
set_option maxHeartbeats 2000000 in
/-- spec.distance -/
theorem sdist (g o g' o' : Nat) (ca cb : Nat) (gs ws : List Int) (w : World) (D : Div gs ws) (hc : ∀ i, i < gs.length → w.cell? ⟨g, o + i, none⟩ = some (.int .i64 (gs.getD i 0))) (hc' : ∀ i, i < ws.length → w.cell? ⟨g', o' + i, none⟩ = some (.int .i64 (ws.getD i 0))) :
    Calls Try.prog 56 #[.slice (some ⟨g, o, none⟩) gs.length ca, .slice (some ⟨g', o', none⟩) ws.length cb] w fun e w' => e = .returned (.int .i64 (distTo gs ws gs.length)) ∧ Below w.heap.size w w' := by
  have HG := Lib.hid (all_bd D.g (by omega))
  have HW := Lib.hid (all_bd D.w (by omega))
  have HB := Lib.hid (dist_bd D)
  have HD := Lib.hid D
  have HC := Lib.hid hc
  have HC' := Lib.hid hc'
  have HL' := Lib.hid D.len
  have hn : gs.length ≤ 1048576 := by have := D.len; have := D.le; omega
  have hm : ws.length ≤ 1048576 := by have := D.le; omega
  obtain ⟨d1, d2, d3, d4, g0, g1, s0, s1⟩ := D
  clear d1 d3 d4 hc hc'
  go_enter Try.func56, Try.ntmps56
  go_wp2_with fail
  refine (stotal _ ca gs _ (.inr ⟨g, o, rfl, HC.out⟩) hn HG.out).mono ?_
  rintro e w' ⟨rfl, rfl⟩
  go_wp2_with fail
  refine (stotal _ cb ws _ (.inr ⟨g', o', rfl, HC'.out⟩) hm HW.out).mono ?_
  rintro e w' ⟨rfl, rfl⟩
  go_wp2_with fail
  go_loopw [7, 8] (fun s i wr => ∃ k : Nat, k ≤ gs.length ∧ i = .int .i64 k ∧ s = .int .i64 (distTo gs ws k) ∧ Below w.heap.size w wr) (fun _ i _ => gs.length - (intOf i).toNat)
  case atStart => exact ⟨0, Nat.zero_le _, rfl, rfl, Below.refl _ _⟩
  case round =>
    obtain ⟨k, hk, rfl, rfl, hBl⟩ := hrel
    obtain ⟨b0, b1⟩ := HB.out k hk
    by_cases hg : k < gs.length
    · have hlt : k < ws.length := by rw [← HL'.out]; exact hg
      have hc := (hBl.cell (p := ⟨g, o + k, none⟩) (World.block_lt_of_cell? w _ (HC.out k hg))).trans (HC.out k hg)
      have hc' := (hBl.cell (p := ⟨g', o' + k, none⟩) (World.block_lt_of_cell? w _ (HC'.out k hlt))).trans (HC'.out k hlt)
      obtain ⟨q1, q2, q3, q4, q5, q6, q7, q8⟩ := prod_bd HD.out hg
      rw [Int.mul_comm] at q7 q8
      have HS := Lib.hid (dterm_comm gs ws k)
      have i0 : (0 : Int) ≤ (k : Int) := by omega
      have i1 : (k : Int) < (gs.length : Int) := by omega
      have i2 : (k : Int) < (ws.length : Int) := by omega
      generalize gs.getD k 0 = y at hc q1 q2 q5 q6 HS
      generalize ws.getD k 0 = z at hc' q3 q4 q7 q8 HS
      by_cases hneg : y * ws.sum < gs.sum * z
      · go_wp2_with fail
        go_quiet (fail)
        go_wp2
        go_roundw
        case rel => exact ⟨k + 1, by omega, by go_num, by rw [HS.out, absd_lt hneg]; go_num, below_drewN hBl _⟩
        case measure => simp [intOf]; omega
      · go_wp2_with fail
        go_quiet (fail)
        go_wp2
        go_roundw
        case rel => exact ⟨k + 1, by omega, by go_num, by rw [HS.out, absd_ge (by omega)], below_drewN hBl _⟩
        case measure => simp [intOf]; omega
    · go_wp2_with fail
      go_ret
      exact ⟨ret_int (by rw [show k = gs.length from by omega]), hBl⟩

set_option maxHeartbeats 2000000 in
/-- spec.DistanceOf -/
theorem sdistOf (a b : Option Addr) (ca cb : Nat) (gs ws : List Int) (w : World) (ha : IsInts w a gs) (hb : IsInts w b ws) (hn : gs.length ≤ 1048576) (hm : ws.length ≤ 1048576) :
    Calls Try.prog 31 #[.slice a gs.length ca, .slice b ws.length cb] w fun e w' => e = .returned (.int .i64 (distI gs ws)) ∧ Below w.heap.size w w' := by
  cases h1 : vwB ws with
  | false =>
    have HN := Lib.hid (dist_no1 (gs := gs) h1)
    go_enter Try.func31, Try.ntmps31
    go_wp2_with fail
    refine (svw b cb ws _ hb hm).mono ?_
    rintro e w' ⟨rfl, rfl⟩
    go_wp2_with fail
    go_ret
    exact ⟨ret_int HN.out.symm, Below.refl _ _⟩
  | true =>
    by_cases h2 : gs.length = ws.length
    · have e2 : ((gs.length : Int) != (ws.length : Int)) = false := by rw [h2]; simp
      have H2 := Lib.hid h2
      have V := Lib.hid h1
      clear h2
      rcases ha with rfl | ⟨g, o, rfl, hc⟩
      · exact absurd (vw_is h1).2.2 (by have := H2.out; simp at this; rw [List.eq_nil_of_length_eq_zero this.symm]; simp)
      · rcases hb with rfl | ⟨g', o', rfl, hc'⟩
        · exact absurd (vw_is h1).2.2 (by simp)
        · have HC := Lib.hid hc
          have HC' := Lib.hid hc'
          clear hc hc'
          go_enter Try.func31, Try.ntmps31
          go_wp2_with fail
          refine (svw _ cb ws _ (.inr ⟨g', o', rfl, HC'.out⟩) hm).mono ?_
          rintro e w' ⟨rfl, rfl⟩
          go_wp2_with fail
          clear h1
          go_loop [5] (fun i => ∃ k : Nat, k ≤ gs.length ∧ i = .int .i64 k ∧ Hid (∀ j, j < k → 0 ≤ gs.getD j 0 ∧ gs.getD j 0 ≤ 500)) (fun i => gs.length - (intOf i).toNat)
          case atStart => exact ⟨0, Nat.zero_le _, rfl, fun j hj => by omega⟩
          case round =>
            obtain ⟨k, hk, rfl, HA⟩ := hrel
            by_cases hlt : k < gs.length
            · have hc := HC.out k hlt
              have hno := allB_no (most := 500) hlt
              have hyes : 0 ≤ gs.getD k 0 → gs.getD k 0 ≤ 500 → ∀ j, j < k + 1 → 0 ≤ gs.getD j 0 ∧ gs.getD j 0 ≤ 500 := fun h0 h1 j hj => by
                by_cases hjk : j = k
                · subst hjk; exact ⟨h0, h1⟩
                · exact HA.out j (by omega)
              generalize gs.getD k 0 = z at hc hno hyes
              have HN := Lib.hid hno
              have HY := Lib.hid hyes
              clear hno hyes
              by_cases zb : z < 0 ∨ 500 < z
              · have HNN := Lib.hid (dist_no3 (ws := ws) (HN.out zb))
                go_wp2_with fail
                refine (inRange_no z 0 500 _ zb).mono ?_
                rintro e w' ⟨rfl, rfl⟩
                go_wp2_with fail
                go_ret
                exact ⟨ret_int HNN.out.symm, Below.refl _ _⟩
              · go_wp2_with fail
                refine (inRange_yes z 0 500 _ (by omega) (by omega)).mono ?_
                rintro e w' ⟨rfl, rfl⟩
                go_wp2_with fail
                go_round
                case rel => exact ⟨k + 1, by omega, by go_num, HY.out (by omega) (by omega)⟩
                case measure => simp [intOf]; omega
            · have h3 := allB_yes (most := 500) (fun j hj => HA.out j (by omega))
              have H3 := Lib.hid h3
              clear h3
              by_cases h4 : 500 < gs.sum
              · have HN := Lib.hid (dist_no4 (ws := ws) h4)
                go_wp2_with fail
                refine (stotal _ ca gs _ (.inr ⟨g, o, rfl, HC.out⟩) hn (all_bd H3.out (by omega))).mono ?_
                rintro e w' ⟨rfl, rfl⟩
                go_wp2_with fail
                go_ret
                exact ⟨ret_int HN.out.symm, Below.refl _ _⟩
              · have HY := Lib.hid (dist_yes V.out H2.out H3.out (by omega))
                go_wp2_with fail
                refine (stotal _ ca gs _ (.inr ⟨g, o, rfl, HC.out⟩) hn (all_bd H3.out (by omega))).mono ?_
                rintro e w' ⟨rfl, rfl⟩
                go_wp2_with fail
                refine (sdist g o g' o' ca cb gs ws _ (div_of V.out H2.out H3.out (by omega)) HC.out HC'.out).mono ?_
                rintro e w' ⟨rfl, hBl⟩
                go_wp2_with fail
                go_ret
                exact ⟨ret_int HY.out.symm, hBl⟩
    · have e2 : ((gs.length : Int) != (ws.length : Int)) = true := by simp; omega
      have HN := Lib.hid (dist_no2 h2)
      clear h2
      go_enter Try.func31, Try.ntmps31
      go_wp2_with fail
      refine (svw b cb ws _ hb hm).mono ?_
      rintro e w' ⟨rfl, rfl⟩
      go_wp2_with fail
      go_ret
      exact ⟨ret_int HN.out.symm, Below.refl _ _⟩
end Go.Proofs.Ytlellobigckolaa
