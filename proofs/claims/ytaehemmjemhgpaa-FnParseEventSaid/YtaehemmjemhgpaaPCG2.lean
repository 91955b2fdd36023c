/- Contracts and facts of functions of this program, in build order. Conditions: those stated in each. -/
import Derived.Test.YtaehemmjemhgpaaPCG1
import Derived.Test.YtaehemmjemhgpaaPCG0
import Derived.Deep.AppendLies
import Derived.Deep.RegionHeld3
import Derived.WalkLawsBesides
import Derived.Laws.DeepStrings4
import Derived.Deep.QuietTactic
import Derived.BigQuiet
import Derived.Laws.AppendOwn
import Derived.OwnWalk
import Derived.OpenShut
import Derived.Deep.OwnRows
import Derived.Deep.DeepCutAuto
import Derived.Deep.MidRow
import Derived.Deep.RegionWith
import Derived.RegionTactic
import Derived.Lib.SmallJoins
import Derived.StillTailTactics
set_option maxRecDepth 100000
set_option maxHeartbeats 16000000
namespace Go.Proofs.Ytaehemmjemhgpaa
open Go.RowKit
set_option linter.unusedSimpArgs false
set_option linter.unusedVariables false
theorem svb (r h : Int) (w : World) :
  Calls Try.prog 138 #[.agg #[.int .i64 r, .int .i64 h]] w fun e w' => e = .returned (.bool (vbB r h)) ∧ Below w.heap.size w w' := by
 by_cases a : r < 0 ∨ 20000 < r
 ·rw [vb_no (by omega)]
  go_enter Try.func138, Try.ntmps138; go_wp2_with fail; refine (jz6 r 0 20000 _ a).mono ?_; rintro e w' ⟨rfl, rfl⟩; go_wp2_with fail; go_ret; exact ⟨rfl, by go_grown⟩
 ·have a1 : 0 ≤ r := by omega
  have a2 : r ≤ 20000 := by omega
  by_cases b : h < 0 ∨ r < h
  ·rw [vb_no (by omega)]
   clear a; go_enter Try.func138, Try.ntmps138; go_wp2_with fail; refine (jqh r 0 20000 _ a1 a2).mono ?_; rintro e w' ⟨rfl, rfl⟩; go_wp2_with fail; refine (jz6 h 0 r _ b).mono ?_; rintro e w' ⟨rfl, rfl⟩; go_wp2_with fail; go_ret; exact ⟨rfl, by go_grown⟩
  ·have b1 : 0 ≤ h := by omega
   have b2 : h ≤ r := by omega
   rw [vb_iff.2 ⟨a1, a2, b1, b2⟩]; clear a b; go_enter Try.func138, Try.ntmps138; go_wp2_with fail; refine (jqh r 0 20000 _ a1 a2).mono ?_; rintro e w' ⟨rfl, rfl⟩; go_wp2_with fail; refine (jqh h 0 r _ b1 b2).mono ?_; rintro e w' ⟨rfl, rfl⟩; go_wp2_with fail; go_ret; exact ⟨rfl, by go_grown⟩
theorem sHour (r hd c q : Int) (w : World) (hv : vbB r hd = true) (h1 : 0 ≤ c ∧ c ≤ 500) (h2 : 0 ≤ q ∧ q ≤ 500) :
  Calls Try.prog 189 #[.agg #[.int .i64 r, .int .i64 hd], .int .i64 c, .int .i64 q] w fun e w' => e = .returned (.tuple #[.agg #[.int .i64 r, .int .i64 (jjc r hd c q)], .int .i64 (jxj hd c q), .int .i64 (jxh r hd c q)]) ∧ Below w.heap.size w w' := by
 obtain ⟨r0, r1, r2, r3⟩ := vb_iff.1 hv; obtain ⟨c0, c1⟩ := h1; obtain ⟨q0, q1⟩ := h2; clear hv
 by_cases e1 : q ≤ hd + c
 ·by_cases e2 : r ≤ hd + c - q
  ·have hg : jxj hd c q = q := by unfold jxj; omega
   have hs : jjc r hd c q = r := by unfold jjc; rw [hg]; omega
   have hsp : jxh r hd c q = hd + c - q - (r) := by unfold jxh; rw [hs, hg]
   rw [hsp, hg, hs]; clear hg hs hsp; go_enter Try.func189, Try.ntmps189; go_wp2_with fail
   go_region
   all_goals (
    go_wp2_with fail
    refine bodyPost_ret (v := .tuple #[.agg #[.int .i64 r, .int .i64 r], .int .i64 q, .int .i64 (hd + c - q - r)]) (by simp [results, Try.results189, go_sem]) rfl ⟨rfl, by go_grown⟩)
  ·have hg : jxj hd c q = q := by unfold jxj; omega
   have hs : jjc r hd c q = hd + c - q := by unfold jjc; rw [hg]; omega
   have hsp : jxh r hd c q = hd + c - q - (hd + c - q) := by unfold jxh; rw [hs, hg]
   rw [hsp, hg, hs]; clear hg hs hsp; go_enter Try.func189, Try.ntmps189; go_wp2_with fail
   go_region
   all_goals (
    go_wp2_with fail
    refine bodyPost_ret (v := .tuple #[.agg #[.int .i64 r, .int .i64 (hd + c - q)], .int .i64 q, .int .i64 (hd + c - q - (hd + c - q))]) (by simp [results, Try.results189, go_sem]) rfl ⟨rfl, by go_grown⟩)
 ·by_cases e2 : r ≤ hd + c - (hd + c)
  ·have hg : jxj hd c q = (hd + c) := by unfold jxj; omega
   have hs : jjc r hd c q = r := by unfold jjc; rw [hg]; omega
   have hsp : jxh r hd c q = hd + c - (hd + c) - (r) := by unfold jxh; rw [hs, hg]
   rw [hsp, hg, hs]; clear hg hs hsp; go_enter Try.func189, Try.ntmps189; go_wp2_with fail
   go_region
   all_goals (
    go_wp2_with fail
    refine bodyPost_ret (v := .tuple #[.agg #[.int .i64 r, .int .i64 r], .int .i64 (hd + c), .int .i64 (hd + c - (hd + c) - r)]) (by simp [results, Try.results189, go_sem]) rfl ⟨rfl, by go_grown⟩)
  ·have hg : jxj hd c q = (hd + c) := by unfold jxj; omega
   have hs : jjc r hd c q = hd + c - (hd + c) := by unfold jjc; rw [hg]; omega
   have hsp : jxh r hd c q = hd + c - (hd + c) - (hd + c - (hd + c)) := by unfold jxh; rw [hs, hg]
   rw [hsp, hg, hs]; clear hg hs hsp; go_enter Try.func189, Try.ntmps189; go_wp2_with fail
   go_region
   all_goals (
    go_wp2_with fail
    refine bodyPost_ret (v := .tuple #[.agg #[.int .i64 r, .int .i64 (hd + c - (hd + c))], .int .i64 (hd + c), .int .i64 (hd + c - (hd + c) - (hd + c - (hd + c)))]) (by simp [results, Try.results189, go_sem]) rfl ⟨rfl, by go_grown⟩)
theorem infoBool : (Try.prog.info? 4).map (fun i => (i.zero, i.size, i.bytes)) = some (some (.bool false), 1, 1) := by kernel_rfl
theorem below_ns {w w' : World} (h : Below w.heap.size w w') (row : Option Nat) : w.grownBy w' row := jxb h row
def Given (w : World) (g : Nat) (D : List Int) (m : Nat) : Prop := w.rowIs g 4 m (fun i => .bool (decide (D.getD i 0 < 0)))
theorem given_keep {w w' : World} {g m : Nat} {D : List Int} (h : Given w g D m) (hB : Below w.heap.size w w') : Given w' g D m := World.rowIs.of_block h (hB.block g (World.rowIs.lt h))
theorem given_skip {w : World} {g g' m : Nat} {D : List Int} (h : Given w g D m) (k : Nat) (v : Value) (hne : g' ≠ g) : Given (w.setCell ⟨g', k, none⟩ v) g D m :=
 World.rowIs.of_block h (Below.heap_setCell w ⟨g', k, none⟩ v g (fun e => by first | exact hne e | exact hne e.symm))
theorem given_set {w : World} {g m : Nat} {D : List Int} (h : Given w g D m) (k : Nat) (hk : k < D.length) : Given (w.setCell ⟨g, k, none⟩ (.bool true)) g (D.set k (-1)) m :=
 (World.rowIs.set h k (.bool true)).congr (fun j hj => by
  show (if j = k then Value.bool true else .bool (decide (D.getD j 0 < 0))) = _
  rw [getD_set _ _ _ hk]; split <;> rfl)
def DivS (m : Nat) (R : List Int) (w : World) (e : Ending) (w' : World) : Prop := ∃ (b : Option Addr) (cap : Nat), e = .returned (.slice b m cap) ∧ jqf w' b R ∧ Below w.heap.size w w'
theorem stotalN (m : Nat) (a : Option Addr) (cap : Nat) (zs : List Int) (w : World) (hl : zs.length = m) (h : jqf w a zs) (hn : m ≤ 1048576) (hz : ∀ z ∈ zs, -1000000 ≤ z ∧ z ≤ 1000000) :
  Calls Try.prog 158 #[.slice a m cap] w fun e w' => e = .returned (.int .i64 zs.sum) ∧ w = w' := by
 subst hl; exact stotal a cap zs w h hn hz
theorem q_all {n : Int} {ws : List Int} (hcs : csB n ws = true) : ∀ z ∈ qs n ws, -1000000 ≤ z ∧ z ≤ 1000000 := fun z hz => by
 obtain ⟨i, hi, rfl⟩ := List.getElem_of_mem hz; have hql := qs_len n ws; have := q_le hcs (i := i) (by omega); rw [List.getD_eq_getElem?_getD, List.getElem?_eq_getElem hi] at this
 simp at this; omega
theorem own_isints {w : World} {base g n cap : Nat} {zs : List Int} (h : w.ownsRow base 3 1 (.slice (some ⟨g, 0, none⟩) n cap) n (zs.map (Value.int .i64))) (hl : zs.length = n) : jqf w (some ⟨g, 0, none⟩) zs := by
 subst hl; obtain ⟨b, c, hv, hi⟩ := own_ints h; injection hv with h1 h2 h3; rw [h1]; exact hi
def okD (D : List Int) (i : Nat) : Bool := decide (0 ≤ D.getD i 0)
theorem pickD_is (D : List Int) (hm : ∀ i, i < D.length → -1 ≤ D.getD i 0) {m : Nat} (hl : D.length = m) : ∀ k, k ≤ m → (jxd (okD D) (jx7 D) k = -1 ∧ jz9 (jx7 D) k = 0 ∧ ∀ j, j < k → okD D j = false) ∨ (jxd (okD D) (jx7 D) k = (jz9 (jx7 D) k : Nat) ∧ okD D (jz9 (jx7 D) k) = true ∧ jz9 (jx7 D) k < k) := by
 subst hl; refine pickS_is (okD D) (jx7 D) D.length (fun i b hi hb h1 h2 => ?_) (fun i b hi hb h1 => ?_)
 ·unfold okD at h1 h2; unfold jx7
  simp at h1 h2 ⊢; omega
 ·have a := hm i hi
  have b := hm b hb; unfold okD at h1; unfold jx7; simp only [decide_eq_false_iff_not] at h1 ⊢; omega
theorem pickS_skip (D : List Int) (k : Nat) (h : D.getD k 0 < 0) : jxd (okD D) (jx7 D) (k + 1) = jxd (okD D) (jx7 D) k := by
 show (if okD D k && _ then (k : Int) else jxd (okD D) (jx7 D) k) = _
 have : okD D k = false := by unfold okD; exact decide_eq_false (by omega)
 rw [this]; simp
theorem pickS_first (D : List Int) (k : Nat) (h : ¬ D.getD k 0 < 0) (h1 : jxd (okD D) (jx7 D) k = -1) : jxd (okD D) (jx7 D) (k + 1) = k := by
 show (if okD D k && (decide (jxd (okD D) (jx7 D) k < 0) || _) then (k : Int) else jxd (okD D) (jx7 D) k) = _
 have : okD D k = true := by unfold okD; exact decide_eq_true (by omega)
 rw [this, h1]; simp
theorem pickS_next (D : List Int) (k b : Nat) (h : ¬ D.getD k 0 < 0) (h1 : jxd (okD D) (jx7 D) k = (b : Int)) : jxd (okD D) (jx7 D) (k + 1) = if D.getD b 0 < D.getD k 0 then (k : Int) else b := by
 show (if okD D k && (decide (jxd (okD D) (jx7 D) k < 0) || jx7 D k (jxd (okD D) (jx7 D) k).toNat) then (k : Int) else jxd (okD D) (jx7 D) k) = _
 have : okD D k = true := by unfold okD; exact decide_eq_true (by omega)
 rw [this, h1]
 have e : decide ((b : Int) < 0) = false := by simp
 rw [e, Int.toNat_natCast]; unfold jx7
 simp
theorem sbyRest (n : Int) (a : Option Addr) (cap : Nat) (ws : List Int) (w : World) (h : jqf w a ws) (hn : ws.length ≤ 1048576) (hcs : csB n ws = true) :
  Calls Try.prog 187 #[.int .i64 n, .slice a ws.length cap] w (DivS ws.length (sr n ws) w) := by
 obtain ⟨⟨n0, n1⟩, hv⟩ := cs_yes hcs; have h0 := h
 rcases h with rfl | ⟨g, o, rfl, hc⟩
 ·exact absurd (vw_is hv).2.2 (by simp)
 ·have hmk := run_make_row' (P := Try.prog) 184 4 (.bool false) 1 Try.underlying184 infoBool rfl .i64 .i64 ws.length (by omega) (by omega)
  obtain ⟨s0, s1⟩ := ws_bd hv; have l12 := (vw_is hv).2.1; have l1 := ws_ne hv; have HZ := Lib.hid (all_bd (vw_is hv).1 (by omega)); have HQ := Lib.hid (q_all hcs); have HC := Lib.hid hc; have HK := Lib.hid hcs; have H0 := Lib.hid h0; have hql := qs_len n ws; have HL := Lib.hid (left_is hcs); obtain ⟨q0, q1⟩ := q_sum hcs
  have hL500 : leftOf n ws ≤ 500 := by have := left_is hcs; omega
  clear hc hv h0 hcs; go_enter Try.func187, Try.ntmps187; go_wp2_with fail; refine (squotasO n _ cap ws _ H0.out hn HK.out).mono ?_; rintro e w1 ⟨v, rfl, ho, hB1⟩; obtain ⟨go, co, rfl, lgo, lt1⟩ := ho.form l1; have HO := Lib.hid ho; have HB := Lib.hid hB1; clear ho hB1; go_wp2_with fail; refine (stotal _ cap ws _ (jq9 H0.out HB.out) hn HZ.out).mono ?_; rintro e w' ⟨rfl, rfl⟩; go_wp2_with fail
  have gne : go ≠ w1.heap.size := by omega
  have HO2 := Lib.hid (HO.out.alloc (.cells (madeCells #[.bool false] ws.length) 4)); have HB2 := Lib.hid (HB.out.alloc HB.out.size (.cells (madeCells #[.bool false] ws.length) 4)); have HG := Lib.hid (World.rowIs_made w1 (.bool false) ws.length 4); clear hmk; refine (stotalN ws.length _ _ (qs n ws) _ hql (own_isints HO2.out hql) hn HQ.out).mono ?_; rintro e w' ⟨rfl, rfl⟩; go_wp2_with fail
  go_loopw [8] (fun l wr => ∃ j : Nat, j ≤ leftOf n ws ∧ l = .int .i64 ((leftOf n ws : Int) - j) ∧ wr.ownsRow w.heap.size 3 1 (.slice (some ⟨go, 0, none⟩) ws.length co) ws.length ((jza n ws j).1.map (Value.int .i64)) ∧ Given wr w1.heap.size (jza n ws j).2 ws.length ∧ Below w.heap.size w wr) (fun l _ => (intOf l).toNat)
  case atStart =>
   refine ⟨0, Nat.zero_le _, by rw [HL.out]; go_num, HO2.out, HG.out.congr (fun i hi => ?_), HB2.out⟩; have := rsts_bd HK.out hi
   show Value.bool false = .bool (decide ((rsts n ws).getD i 0 < 0))
   rw [decide_eq_false (by omega)]
  case round =>
   obtain ⟨j, hj, rfl, RG, RD, hB⟩ := hrel
   by_cases hjl : j < leftOf n ws
   ·have RJ := rest_is HK.out j hj
    obtain ⟨hb, hpos⟩ := rest_best HK.out RJ hjl
    have hy : 0 ≤ (jza n ws j).1.getD (jz9 (jx7 (jza n ws j).2) ws.length) 0 ∧ (jza n ws j).1.getD (jz9 (jx7 (jza n ws j).2) ws.length) 0 ≤ 500001 := by
     have := q_le HK.out hb
     rcases RJ.each _ hb with h | h <;> omega
    have hD : ∀ i, i < ws.length → -1 ≤ (jza n ws j).2.getD i 0 ∧ (0 ≤ (jza n ws j).2.getD i 0 → (jza n ws j).2.getD i 0 = n * ws.getD i 0 % ws.sum) := fun i hi => by
     have := rsts_bd HK.out hi; have e := rsts_get n ws hi
     rcases RJ.each i hi with h | h
     ·omega
     ·omega
    obtain ⟨lG, lD⟩ := restTo_len n ws j; have e1 := restTo_succ1 n ws j; have e2 := restTo_succ2 n ws j
    obtain ⟨G', hG'⟩ : ∃ G', (jza n ws (j + 1)).1 = G' := ⟨_, rfl⟩
    obtain ⟨D', hD'⟩ : ∃ D', (jza n ws (j + 1)).2 = D' := ⟨_, rfl⟩
    rw [hG'] at e1; rw [hD'] at e2; have HGD := Lib.hid (And.intro hG' hD'); clear hG' hD' RJ; generalize (jza n ws j).1 = G at *; generalize (jza n ws j).2 = D at *; have HD := Lib.hid hD; have HP := Lib.hid (pickD_is D (fun i hi => (hD i (by omega)).1) lD); have HRG := Lib.hid RG; have HRD := Lib.hid RD; have HBB := Lib.hid hB; have HE := Lib.hid (And.intro e1 e2)
    have hpk : jxd (okD D) (jx7 D) ws.length = (jz9 (jx7 D) ws.length : Nat) := by
     rcases HP.out ws.length (Nat.le_refl _) with ⟨_, b0, hno⟩ | ⟨h, _⟩
     ·have := hno _ hb
      unfold okD at this; simp only [decide_eq_false_iff_not] at this
      omega
     ·exact h
    have HPK := Lib.hid hpk; clear RG RD hB e1 e2 hD hpk hpos; go_wp2_with fail
    go_loopw [9, 10] (fun b i wi => ∃ k : Nat, k ≤ ws.length ∧ i = .int .i64 k ∧ b = .int .i64 (jxd (okD D) (jx7 D) k) ∧ Below wr.heap.size wr wi) (fun _ i _ => ws.length - (intOf i).toNat)
    case atStart => exact ⟨0, Nat.zero_le _, rfl, rfl, Below.refl _ _⟩
    case round =>
     obtain ⟨k, hk, rfl, hbest, hBi⟩ := hrel
     by_cases hlt : k < ws.length
     ·have hcell := World.rowIs.cell (given_keep HRD.out hBi) hlt
      have i0 : (0 : Int) ≤ (k : Int) := by omega
      have i1 : (k : Int) < (ws.length : Int) := by omega
      by_cases hd : D.getD k 0 < 0
      ·rw [decide_eq_true hd] at hcell
       have HS := Lib.hid (pickS_skip D k hd); subst hbest; go_wp2_with fail
       go_quiet (fail)
       go_wp2
       go_roundw
       case rel => exact ⟨k + 1, by omega, by go_num, by rw [HS.out], jqc hBi _⟩
       case measure => simp [intOf]; omega
      ·rw [decide_eq_false hd] at hcell
       rcases HP.out k hk with ⟨p1, _, _⟩ | ⟨p1, p2, p3⟩
       ·have HS := Lib.hid (pickS_first D k hd p1)
        rw [p1] at hbest; subst hbest; clear p1; go_wp2_with fail
        go_quiet (fail)
        go_wp2
        go_roundw
        case rel => exact ⟨k + 1, by omega, by go_num, by rw [HS.out], jqc hBi _⟩
        case measure => simp [intOf]; omega
       ·have HS := Lib.hid (pickS_next D k _ hd p1)
        rw [p1] at hbest; subst hbest; have hB2 := jq2 HBB.out hBi; have hc := (hB2.cell (p := ⟨g, o + k, none⟩) (World.block_lt_of_cell? w _ (HC.out k hlt))).trans (HC.out k hlt); have hc2 := (hB2.cell (p := ⟨g, o + jz9 (jx7 D) k, none⟩) (World.block_lt_of_cell? w _ (HC.out _ (by omega)))).trans (HC.out _ (by omega)); have d1 := (HD.out k hlt).2 (by omega); unfold okD at p2; simp only [decide_eq_true_eq] at p2; have d2 := (HD.out (jz9 (jx7 D) k) (by omega)).2 p2; rw [d1, d2] at HS; obtain ⟨z0, z1, z2, z3⟩ := q_bd HK.out hlt; obtain ⟨y0, y1, y2, y3⟩ := q_bd HK.out (show jz9 (jx7 D) k < ws.length by omega)
        have i2 : (0 : Int) ≤ (jz9 (jx7 D) k : Int) := by omega
        have i3 : (jz9 (jx7 D) k : Int) < (ws.length : Int) := by omega
        have i4 : decide ((jz9 (jx7 D) k : Int) < 0) = false := decide_eq_false (by omega); clear d1 d2 p1 p2 hd hB2; generalize jz9 (jx7 D) k = b at *; generalize ws.getD k 0 = z at *; generalize ws.getD b 0 = y at *; have t1 : (n * z).tmod ws.sum = n * z % ws.sum := Int.tmod_eq_emod_of_nonneg z2; have t2 : (n * y).tmod ws.sum = n * y % ws.sum := Int.tmod_eq_emod_of_nonneg y2
        have t3 : IntKind.i64.wrap (n * z) = n * z := by rw [IntKind.wrap_i64]; omega
        have t4 : IntKind.i64.wrap (n * y) = n * y := by rw [IntKind.wrap_i64]; omega
        by_cases hzy : n * y % ws.sum < n * z % ws.sum
        ·rw [if_pos hzy] at HS
         go_wp2_with fail
         go_quiet (fail)
         go_wp2
         go_roundw
         case rel => exact ⟨k + 1, by omega, by go_num, by rw [HS.out], jqc hBi _⟩
         case measure => simp [intOf]; omega
        ·rw [if_neg hzy] at HS
         go_wp2_with fail
         go_quiet (fail)
         go_wp2
         go_roundw
         case rel => exact ⟨k + 1, by omega, by go_num, by rw [HS.out], jqc hBi _⟩
         case measure => simp [intOf]; omega
     ·have ek : k = ws.length := by omega
      subst ek; rw [HPK.out] at hbest; subst hbest; clear HPK HP HD; have RG := HRG.out.kept (below_ns hBi none) (.inr (by simp [Value.ownBlock])); have RD := given_keep HRD.out hBi; have hB2 := jq2 HBB.out hBi
      have hlen : (G.map (Value.int .i64)).length = ws.length := by simp [lG]
      have hx := RG.cellAt (jz9 (jx7 D) ws.length) (by omega); obtain ⟨E1, E2⟩ := HE.out; generalize jz9 (jx7 D) ws.length = b at *
      have hgv : (G.map (Value.int .i64))[b]? = some (.int .i64 (G.getD b 0)) := by
       rw [List.getElem?_map, List.getD_eq_getElem?_getD, List.getElem?_eq_getElem (by omega)]; rfl
      rw [hgv] at hx; have hf := RG.frozenAt b; have hf2 := World.rowIs.frozen RD b; have hz := World.rowIs.cell RD hb; have hx2 := so (v := .bool true) (show (⟨w1.heap.size, b, none⟩ : Addr) ≠ ⟨go, b, none⟩ from fun e => gne (by injection e with e; exact e.symm)) hx
      have i0 : (0 : Int) ≤ (b : Int) := by omega
      have i1 : (b : Int) < (ws.length : Int) := by omega
      have sG := ((RG.kept (row := some w1.heap.size) (g_set (p := ⟨w1.heap.size, b, none⟩) (jxb (Below.refl _ wr) _) (.inl rfl) (.bool true)) (.inr (by simp [Value.ownBlock]; exact gne))).stored b (.int .i64 (G.getD b 0 + 1))).1; rw [show (G.map (Value.int .i64)).set b (.int .i64 (G.getD b 0 + 1)) = (G.set b (G.getD b 0 + 1)).map (Value.int .i64) by rw [List.map_set], ← E1] at sG; have sD := given_skip (given_set RD b (by omega)) b (.int .i64 (G.getD b 0 + 1)) gne; rw [← E2] at sD; have sB : Below w.heap.size w ((wr.setCell ⟨w1.heap.size, b, none⟩ (.bool true)).setCell ⟨go, b, none⟩ (.int .i64 (G.getD b 0 + 1))) := (hB2.setCell (by exact HB.out.size) _).setCell lgo _; have HS := Lib.hid (And.intro sG (And.intro sD sB)); clear sG sD sB RG RD hB2 E1 E2 HE HRG HRD HBB hgv hlen; generalize G.getD b 0 = y at *
      go_wp2
      go_roundw
      case rel => exact ⟨j + 1, by omega, by go_num, by rw [HGD.out.1]; exact HS.out.1, by rw [HGD.out.2]; exact HS.out.2.1, HS.out.2.2⟩
      case measure => simp [intOf]; omega
   ·have e : j = leftOf n ws := by omega
    subst e
    go_wp2
    go_ret; exact ⟨some ⟨go, 0, none⟩, co, rfl, own_isints RG (sr_len n ws), hB⟩
def okWa (ws : List Int) (i : Nat) : Bool := decide (0 < ws.getD i 0)
theorem pickW_is (step : Int) (ws gs : List Int) (m : Nat) (h1 : ∀ i, i < m → 0 ≤ ws.getD i 0) (h2 : ∀ i, i < m → 0 < step * gs.getD i 0 + 1) :
  ∀ k, k ≤ m → (jxd (okWa ws) (avgB step ws gs) k = -1 ∧ jz9 (avgB step ws gs) k = 0 ∧ ∀ j, j < k → okWa ws j = false) ∨ (jxd (okWa ws) (avgB step ws gs) k = (jz9 (avgB step ws gs) k : Nat) ∧ okWa ws (jz9 (avgB step ws gs) k) = true ∧ jz9 (avgB step ws gs) k < k) := by
 refine pickS_is (okWa ws) (avgB step ws gs) m (fun i b hi hb a1 a2 => ?_) (fun i b hi hb a1 => ?_)
 ·unfold okWa at a1 a2; unfold avgB
  simp only [decide_eq_true_eq, decide_eq_false_iff_not] at a1 a2 ⊢
  have e : ws.getD b 0 = 0 := by have := h1 b hb; omega
  rw [e, Int.zero_mul]; exact Int.mul_pos a1 (h2 b hb)
 ·unfold okWa at a1; unfold avgB
  simp only [decide_eq_false_iff_not] at a1 ⊢
  have e : ws.getD i 0 = 0 := by have := h1 i hi; omega
  rw [e, Int.zero_mul]; have := Int.mul_nonneg (h1 b hb) (Int.le_of_lt (h2 i hi))
  omega
theorem pickW_skip (step : Int) (ws gs : List Int) (k : Nat) (h : ¬ 0 < ws.getD k 0) : jxd (okWa ws) (avgB step ws gs) (k + 1) = jxd (okWa ws) (avgB step ws gs) k := by
 show (if okWa ws k && _ then (k : Int) else jxd (okWa ws) (avgB step ws gs) k) = _
 have : okWa ws k = false := by unfold okWa; exact decide_eq_false (by omega)
 rw [this]; simp
theorem pickW_first (step : Int) (ws gs : List Int) (k : Nat) (h : 0 < ws.getD k 0) (h1 : jxd (okWa ws) (avgB step ws gs) k = -1) : jxd (okWa ws) (avgB step ws gs) (k + 1) = k := by
 show (if okWa ws k && (decide (jxd (okWa ws) (avgB step ws gs) k < 0) || _) then (k : Int) else jxd (okWa ws) (avgB step ws gs) k) = _
 have : okWa ws k = true := by unfold okWa; exact decide_eq_true h
 rw [this, h1]; simp
theorem pickW_next (step : Int) (ws gs : List Int) (k b : Nat) (h : 0 < ws.getD k 0) (h1 : jxd (okWa ws) (avgB step ws gs) k = (b : Int)) : jxd (okWa ws) (avgB step ws gs) (k + 1) = if ws.getD b 0 * (step * gs.getD k 0 + 1) < ws.getD k 0 * (step * gs.getD b 0 + 1) then (k : Int) else b := by
 show (if okWa ws k && (decide (jxd (okWa ws) (avgB step ws gs) k < 0) || avgB step ws gs k (jxd (okWa ws) (avgB step ws gs) k).toNat) then (k : Int) else jxd (okWa ws) (avgB step ws gs) k) = _
 have : okWa ws k = true := by unfold okWa; exact decide_eq_true h
 rw [this, h1]
 have e : decide ((b : Int) < 0) = false := by simp
 rw [e, Int.toNat_natCast]; unfold avgB
 simp
theorem sbyAvg (step n : Int) (a : Option Addr) (cap : Nat) (ws : List Int) (w : World) (h : jqf w a ws) (hn : ws.length ≤ 1048576) (hs : 1 ≤ step ∧ step ≤ 2) (hcs : csB n ws = true) :
  Calls Try.prog 200 #[.int .i64 n, .slice a ws.length cap, .int .i64 step, .int .i64 1] w (Divd ws.length (sa step n ws) w) := by
 obtain ⟨⟨n0, n1⟩, hv⟩ := cs_yes hcs
 rcases h with rfl | ⟨g, o, rfl, hc⟩
 ·exact absurd (vw_is hv).2.2 (by simp)
 ·have hmk := run_make_row' (P := Try.prog) 59 3 (.int .i64 0) 8 Try.underlying59 infoInt rfl .i64 .i64 ws.length (by omega) (by omega)
  have l1 := ws_ne hv; have HV := Lib.hid hv; have HK := Lib.hid hcs; have HC := Lib.hid hc; clear hv hcs hc; go_enter Try.func200, Try.ntmps200; go_wp2_with fail; clear hmk
  go_loopw [10] (fun l wr => ∃ j : Nat, j ≤ n.toNat ∧ l = .int .i64 j ∧ Row wr w.heap.size (jx6 step ws j) ∧ Below w.heap.size w wr) (fun l _ => (n - intOf l).toNat)
  case atStart =>
   refine ⟨0, Nat.zero_le _, rfl, ?_, by go_grown⟩; unfold Row; rw [avgTo_len]; refine (World.rowIs_made w (.int .i64 0) ws.length _).congr (fun i hi => ?_)
   show Value.int .i64 0 = .int .i64 ((List.replicate ws.length (0 : Int)).getD i 0)
   rw [List.getD_eq_getElem?_getD, List.getElem?_replicate]; split <;> rfl
  case round =>
   obtain ⟨j, hj, rfl, RG, hB⟩ := hrel
   by_cases hjn : (j : Int) < n
   ·have A := avg_is HV.out hs j (by omega)
    obtain ⟨hb, hwb⟩ := avg_pos HV.out hs (by omega) A; have hl := avgTo_len step ws j; have e1 := avgTo_succ step ws j
    have hbd : ∀ i, i < ws.length → 0 ≤ (jx6 step ws j).getD i 0 ∧ (jx6 step ws j).getD i 0 ≤ 1000 := fun i hi => by have := A.bd i hi; omega
    obtain ⟨G', hG'⟩ : ∃ G', jx6 step ws (j + 1) = G' := ⟨_, rfl⟩
    rw [hG'] at e1; have HG := Lib.hid hG'; clear hG' A; generalize jx6 step ws j = G at *; have HP := Lib.hid (pickW_is step ws G ws.length (fun i hi => (all_get HV.out hi).1) (fun i hi => (fac_bd hs (hbd i hi) (by omega)).1))
    have hpk : jxd (okWa ws) (avgB step ws G) ws.length = (jz9 (avgB step ws G) ws.length : Nat) := by
     rcases HP.out ws.length (Nat.le_refl _) with ⟨_, b0, hno⟩ | ⟨h, _⟩
     ·have := hno _ hb
      unfold okWa at this; simp only [decide_eq_false_iff_not] at this
      omega
     ·exact h
    have HPK := Lib.hid hpk; have HBD := Lib.hid hbd; have HRG := Lib.hid RG; have HB := Lib.hid hB; have HE := Lib.hid e1; clear hbd RG hB e1 hpk hwb; go_wp2_with fail
    go_loopw [11, 12] (fun b i wi => ∃ k : Nat, k ≤ ws.length ∧ i = .int .i64 k ∧ b = .int .i64 (jxd (okWa ws) (avgB step ws G) k) ∧ Below wr.heap.size wr wi) (fun _ i _ => ws.length - (intOf i).toNat)
    case atStart => exact ⟨0, Nat.zero_le _, rfl, rfl, Below.refl _ _⟩
    case round =>
     obtain ⟨k, hk, rfl, hbest, hBi⟩ := hrel
     by_cases hlt : k < ws.length
     ·have hB2 := jq2 HB.out hBi
      have c1 := (hB2.cell (p := ⟨g, o + k, none⟩) (World.block_lt_of_cell? w _ (HC.out k hlt))).trans (HC.out k hlt)
      have i0 : (0 : Int) ≤ (k : Int) := by omega
      have i1 : (k : Int) < (ws.length : Int) := by omega
      by_cases hd : 0 < ws.getD k 0
      ·rcases HP.out k hk with ⟨p1, _, _⟩ | ⟨p1, p2, p3⟩
       ·have HS := Lib.hid (pickW_first step ws G k hd p1)
        rw [p1] at hbest; subst hbest; clear p1 hB2; generalize ws.getD k 0 = x at *; go_wp2_with fail
        go_quiet (fail)
        go_wp2
        go_roundw
        case rel => exact ⟨k + 1, by omega, by go_num, by rw [HS.out], jqc hBi _⟩
        case measure => simp [intOf]; omega
       ·have HS := Lib.hid (pickW_next step ws G k _ hd p1)
        rw [p1] at hbest; subst hbest
        have hbk : jz9 (avgB step ws G) k < ws.length := by omega
        have c2 := (hB2.cell (p := ⟨g, o + jz9 (avgB step ws G) k, none⟩) (World.block_lt_of_cell? w _ (HC.out _ hbk))).trans (HC.out _ hbk); have c3 := World.rowIs.cell (row_keep HRG.out hBi) (i := k) (by omega); have c4 := World.rowIs.cell (row_keep HRG.out hBi) (i := jz9 (avgB step ws G) k) (by omega); obtain ⟨p1, p2, p3, p4⟩ := fac_all (x := ws.getD k 0) hs (all_get HV.out hlt) (HBD.out _ hbk); obtain ⟨q1, q2, q3, q4⟩ := fac_all (x := ws.getD (jz9 (avgB step ws G) k) 0) hs (all_get HV.out hbk) (HBD.out k hlt)
        have i2 : (0 : Int) ≤ (jz9 (avgB step ws G) k : Int) := by omega
        have i3 : (jz9 (avgB step ws G) k : Int) < (ws.length : Int) := by omega
        have i4 : decide ((jz9 (avgB step ws G) k : Int) < 0) = false := decide_eq_false (by omega); clear hB2; generalize jz9 (avgB step ws G) k = b at *; generalize ws.getD k 0 = x at *; generalize ws.getD b 0 = y at *; generalize G.getD k 0 = u at *; generalize G.getD b 0 = v at *; have t1 : IntKind.i64.wrap (step * v) = step * v := wrap_of (by omega); have t2 : IntKind.i64.wrap (step * u) = step * u := wrap_of (by omega); have t3 : IntKind.i64.wrap (step * v + 1) = step * v + 1 := wrap_of (by omega); have t4 : IntKind.i64.wrap (step * u + 1) = step * u + 1 := wrap_of (by omega); have t5 : IntKind.i64.wrap (x * (step * v + 1)) = x * (step * v + 1) := wrap_of (by omega); have t6 : IntKind.i64.wrap (y * (step * u + 1)) = y * (step * u + 1) := wrap_of (by omega); clear hs hl
        by_cases hxy : y * (step * u + 1) < x * (step * v + 1)
        ·rw [if_pos hxy] at HS
         go_wp2_with fail
         go_quiet (fail)
         go_wp2
         go_roundw
         case rel => exact ⟨k + 1, by omega, by go_num, by rw [HS.out], jqc hBi _⟩
         case measure => simp [intOf]; omega
        ·rw [if_neg hxy] at HS
         go_wp2_with fail
         go_quiet (fail)
         go_wp2
         go_roundw
         case rel => exact ⟨k + 1, by omega, by go_num, by rw [HS.out], jqc hBi _⟩
         case measure => simp [intOf]; omega
      ·have hd2 : decide (0 < ws.getD k 0) = false := decide_eq_false hd
       have HS := Lib.hid (pickW_skip step ws G k hd); subst hbest; clear hB2; generalize ws.getD k 0 = x at *; go_wp2_with fail
       go_quiet (fail)
       go_wp2
       go_roundw
       case rel => exact ⟨k + 1, by omega, by go_num, by rw [HS.out], jqc hBi _⟩
       case measure => simp [intOf]; omega
     ·have ek : k = ws.length := by omega
      subst ek; rw [HPK.out] at hbest; subst hbest; have hy := HBD.out _ hb; clear HPK HP HBD; have RG := row_keep HRG.out hBi; have B4 := jq2 HB.out hBi; have E1 := HE.out; generalize jz9 (avgB step ws G) ws.length = b at *; have hx := World.rowIs.cell RG (i := b) (by omega); have hf := World.rowIs.frozen RG b
      have i0 : (0 : Int) ≤ (b : Int) := by omega
      have i1 : (b : Int) < (ws.length : Int) := by omega
      have sG := row_set RG b (G.getD b 0 + 1) (by omega); rw [← E1] at sG; have sB : Below w.heap.size w (wr.setCell ⟨w.heap.size, b, none⟩ (.int .i64 (G.getD b 0 + 1))) := B4.setCell (Nat.le_refl _) _; have HS := Lib.hid (And.intro sG sB); clear sG sB RG B4 E1 HE HRG HB; generalize G.getD b 0 = y at *
      go_wp2
      go_roundw
      case rel => exact ⟨j + 1, by omega, by go_num, by rw [HG.out]; exact HS.out.1, HS.out.2⟩
      case measure => simp [intOf]; omega
   ·have e : j = n.toNat := by omega
    have HR := Lib.hid RG; clear RG
    go_wp2
    go_ret; exact ⟨w.heap.size, rfl, Nat.le_refl _, by unfold sa; rw [← e]; exact HR.out, hB⟩
theorem spassing (x0 x1 x2 x3 x4 c : Int) (w : World) (hc : 0 ≤ c ∧ c ≤ 500) (h2 : 0 ≤ x2 ∧ x2 ≤ 500) (h3 : 0 ≤ x3 ∧ x3 ≤ 500) :
  Calls Try.prog 197 #[.agg #[.int .i64 x0, .int .i64 x1, .int .i64 x2, .int .i64 x3, .int .i64 x4], .int .i64 c] w fun e w' => e = .returned (.int .i64 (jj3 (x0, x1, x2, x3, x4) c)) ∧ Below w.heap.size w w' := by
 have HV : Hid (jj3 (x0, x1, x2, x3, x4) c = min x3 (c - min x2 c)) := pass_min (x := (x0, x1, x2, x3, x4)) h3.1 hc.1 h2.1
 have wz : IntKind.i64.wrap (c - min x2 c) = c - min x2 c := by rw [IntKind.wrap_i64]; omega
 go_enter Try.func197, Try.ntmps197; go_wp2_with fail
 all_goals (go_ret; exact ⟨jze (by rw [HV.out]; omega), by go_grown⟩)
def giveS (ns : List Nd) (k : Int) (p : Int) : List Int := if vwB (wts ns k) = true then sa 2 p (wts ns k) else List.replicate (jzj ns k).length 0
theorem giveS_len (ns : List Nd) (k : Int) (p : Int) : (giveS ns k p).length = (jzj ns k).length := by
 unfold giveS; split
 ·rw [sa_len]; unfold wts; rw [wk_len]
 ·rw [List.length_replicate]
theorem giveS_put {ns : List Nd} (hv : vnB ns = true) {fl : Int} {k : Nat} (hk : k < ns.length) : putTo (jz8 ns fl k) (jzj ns (k : Int)) (giveS ns (k : Int) (jj3 (ns.getD k nd0) ((jz8 ns fl k).getD k 0))) (jzj ns (k : Int)).length = jz8 ns fl (k + 1) := by
 unfold giveS
 by_cases hw : vwB (wts ns (k : Int)) = true
 ·rw [if_pos hw]; exact step_give hw
 ·rw [if_neg hw]; exact step_zero hv hk hw
theorem wk_take (ns : List Nd) (ks : List Int) (k : Nat) (h : k < ks.length) : (wk ns ks).take (k + 1) = (wk ns ks).take k ++ [(ns.getD (ks.getD k 0).toNat nd0).2.1] := by
 rw [take_snocD (wk ns ks) (by rw [wk_len]; exact h) 0, wk_get ns ks h]
theorem sshareF (a : Option Addr) (cap : Nat) (ns : List Nd) (k : Nat) (p : Int) (w : World) (h : IsNd w a ns) (hv : vnB ns = true) (hp : 0 ≤ p ∧ p ≤ 500) :
  Calls Try.prog 199 #[.slice a ns.length cap, .int .i64 (k : Int), .int .i64 p] w (OutI w (giveS ns (k : Int) p)) := by
 obtain ⟨l1, l12, _⟩ := vn_is hv; obtain ⟨i0, hi0, hz0, hz1, hz2⟩ := info_parts infoInt; have CK := skids a cap ns (k : Int) w h hv; have hkl := kids_len ns (k : Int)
 have hkm : ∀ z ∈ jzj ns (k : Int), ∃ j : Nat, z = (j : Int) ∧ j < ns.length := fun z hz => by obtain ⟨j, a, b, _⟩ := kids_bd hz; exact ⟨j, a, b⟩
 have HW1 : Hid (∀ z ∈ wts ns (k : Int), 0 ≤ z ∧ z ≤ 1000) := wts_bd hv (k : Int); have HWZ := Lib.hid (wts_zero hv (k : Int)); have HWE : Hid (wts ns (k : Int) = wk ns (jzj ns (k : Int))) := rfl; have HGS : Hid (giveS ns (k : Int) p = if vwB (wts ns (k : Int)) = true then sa 2 p (wts ns (k : Int)) else List.replicate (jzj ns (k : Int)).length 0) := rfl; have HMK := Lib.hid (run_make_row' (P := Try.prog) 59 3 (.int .i64 0) 8 Try.underlying59 infoInt rfl .i64 .i64 (jzj ns (k : Int)).length (by omega) (by omega))
 rcases h with rfl | ⟨g, o, rfl, hc⟩
 ·simp at l1
 have HC := Lib.hid hc; have HKM := Lib.hid hkm; clear hc hv hkm; generalize jzj ns (k : Int) = ks at CK hkl HKM HWE HGS HMK; generalize wts ns (k : Int) = ws at HW1 HWZ HWE HGS; go_enter Try.func199, Try.ntmps199; go_wp2_with fail; refine CK.mono ?_; rintro e w1 ⟨v7, rfl, hK, hB⟩; obtain ⟨kb, kc, rfl, _⟩ := hK.ints
 have HC1 : Hid (∀ i, i < ns.length → w1.cell? ⟨g, o + i * 5 + 1, none⟩ = some (.int .i64 (ns.getD i nd0).2.1)) := fun i hi => (nd_at HC.out hB hi).2.1
 have HK1 := Lib.hid hK; have HB1 := Lib.hid hB; have hs1 := hB.size; clear CK hK hB HC; go_wp2_with fail
 obtain ⟨V, hV⟩ : ∃ V, V = w1 := ⟨_, rfl⟩
 subst hV
 go_loopw [8, 9] (fun v i wr => ∃ q : Nat, q ≤ ks.length ∧ i = .int .i64 q ∧ OwnI wr V.heap.size v ((wk ns ks).take q) ∧ Below V.heap.size V wr) (fun _ i _ => ks.length - (intOf i).toNat)
 case atStart => exact ⟨0, Nat.zero_le _, rfl, OwnI.new (Below.refl _ V), by go_grown⟩
 case round =>
  obtain ⟨q, hq, rfl, hO, hB⟩ := hrel; have hsz := hB.size
  by_cases hlt : q < ks.length
  ·rcases (HK1.out.of_block hB).at_ with rfl | ⟨gk, ok, rfl, hkc⟩
   ·simp at hlt
   have c1 := hkc q hlt; obtain ⟨j, hj, hjl⟩ := HKM.out _ (jjh hlt); have c2' := HC1.out j hjl; have c2 := (hB.cell (World.block_lt_of_cell? V _ c2')).trans c2'; have hwt := wk_take ns ks q hlt; rw [hj, show ((j : Int)).toNat = j from by omega] at hwt; rw [hj] at c1
   have hll : ((wk ns ks).take q).length ≤ 1048576 := by rw [List.length_take]; omega
   generalize (ns.getD j nd0).2.1 = z at c2 hwt; generalize (wk ns ks).take q = tk at hO hwt hll
   have b0 : (0 : Int) ≤ (j : Int) := by omega
   have b1 : (j : Int) < (ns.length : Int) := by omega
   have HWT := Lib.hid hwt; clear hkc c2' hwt hj
   go_wp2_with (first | (at_builtin; refine wpList_append_own _ rfl (.tmp 20) (.tmp 29) _ rfl V.heap.size 3 i0 (.int .i64 0) 1 8 Try.underlying59 hi0 hz0 hz1 hz2 rfl (by decide) _ _ _ rfl (hO.alloc _) ⟨wr.heap.size, 0, none⟩ 1 1 [.int .i64 z] rfl rfl (cell_one_new _ _ _) (fun x hx => by simp at hx; subst hx; rfl) (by unfold maxLen; omega) (by omega) (by simp; omega) ?_; intro v3 w3 hown3 hgrow3 hnil3))
   have HR : Hid (OwnI w3 V.heap.size v3 ((wk ns ks).take (q + 1)) ∧ Below V.heap.size V w3) := ⟨by rw [HWT.out]; exact OwnI.snoc hown3, (hB.alloc hsz _).grown hgrow3 (by simp; omega) hO.grow⟩
   clear hO hown3 hgrow3 hnil3 hB c1 c2
   go_roundw
   case rel => exact ⟨q + 1, by omega, by go_num, HR.out.1, HR.out.2⟩
   case measure => simp [intOf]; omega
  ·rw [List.take_of_length_le (by rw [wk_len]; omega), ← HWE.out] at hO
   obtain ⟨wb, wc, rfl, hWI⟩ := hO.ints
   have HWL : Hid (ws.length = ks.length) := by show ws.length = ks.length; rw [HWE.out, wk_len]
   have CT := stotal wb wc ws wr hWI (by rw [HWL.out]; omega) (fun z hz => by have := HW1.out z hz; omega); have HB2 := Lib.hid (jq2 HB1.out hB); have HWI := Lib.hid hWI; have hsz2 := HB2.out.size; have HWZ2 := HWZ.out
   obtain ⟨sm, hsm⟩ : ∃ s, ws.sum = s := ⟨_, rfl⟩
   rw [hsm] at CT HWZ2
   have hkq : (q : Int) = (ks.length : Int) := by omega
   clear hB hO hWI hsm; go_wp2_with fail; refine CT.mono ?_; rintro e w' ⟨rfl, rfl⟩; clear CT
   by_cases hw : vwB ws = true
   ·have HGV : Hid (giveS ns (k : Int) p = sa 2 p ws) := by show _ = _; rw [HGS.out, if_pos hw]
    have e1 : (sm == 0) = false := by rw [HWZ2, hw]; rfl
    have CB := sbyAvg 2 p wb wc ws wr HWI.out (by rw [HWL.out]; omega) (by omega) (by rw [cs_is (by omega)]; exact hw); clear hw HWZ2; go_wp2_with fail; refine CB.mono ?_; rintro e w5 ⟨gq, rfl, hg, hr, hb5⟩
    have HE : Hid (OwnI w5 w.heap.size (.slice (some ⟨gq, 0, none⟩) ws.length ws.length) (giveS ns (k : Int) p) ∧ Below w.heap.size w w5) := by
     have := row_own hr (base := w.heap.size) (by omega) (by rw [sa_len, HWL.out]; omega); rw [sa_len] at this; exact ⟨by rw [HGV.out]; exact this, jq2 HB2.out hb5⟩
    clear hg hr hb5 CB; go_wp2_with fail; go_ret; exact ⟨_, rfl, HE.out⟩
   ·have HGV : Hid (giveS ns (k : Int) p = List.replicate ks.length 0) := by show _ = _; rw [HGS.out, if_neg hw]
    have hw2 : vwB ws = false := by simpa using hw
    have e1 : (sm == 0) = true := by rw [HWZ2, hw2]; rfl
    obtain rfl : sm = 0 := by simpa using e1
    have hmk := HMK.out
    have HE : Hid (OwnI (wr.alloc (.cells (madeCells #[.int .i64 0] ks.length) 3)) w.heap.size (.slice (some ⟨wr.heap.size, 0, none⟩) ks.length ks.length) (giveS ns (k : Int) p) ∧ Below w.heap.size w (wr.alloc (.cells (madeCells #[.int .i64 0] ks.length) 3))) := ⟨by rw [HGV.out]; exact OwnI.made HB2.out ks.length (by omega), HB2.out.alloc HB2.out.size _⟩
    clear hw hw2 HWZ2; go_wp2_with fail; go_ret; exact ⟨_, rfl, HE.out⟩
theorem sflows (a : Option Addr) (cap : Nat) (ns : List Nd) (fl : Int) (w : World) (h : IsNd w a ns) (hv : vnB ns = true) (hf : 0 ≤ fl ∧ fl ≤ 500) :
  Calls Try.prog 195 #[.slice a ns.length cap, .int .i64 fl] w (OutI w (jjj ns fl)) := by
 obtain ⟨l1, l12, _⟩ := vn_is hv; have hmk := run_make_row' (P := Try.prog) 59 3 (.int .i64 0) 8 Try.underlying59 infoInt rfl .i64 .i64 ns.length (by omega) (by omega); have HKID := Lib.hid (fun (W : World) (hW : Below w.heap.size w W) (k : Nat) => skids a cap ns (k : Int) W (nd_below h hW) hv); have HSHR := Lib.hid (fun (W : World) (hW : Below w.heap.size w W) (k : Nat) (p : Int) (hp : 0 ≤ p ∧ p ≤ 500) => sshareF a cap ns k p W (nd_below h hW) hv hp); have HV := Lib.hid hv
 rcases h with rfl | ⟨g0, o, rfl, hc⟩
 ·simp at l1
 have HC := Lib.hid hc
 have i0 : (0 : Int) < (ns.length : Int) := by omega
 have hM := OwnI.made (Below.refl _ w) ns.length (by omega); have hz := hM.cell (j := 0) (by rw [List.length_replicate]; omega); have hzf := hM.frozen 0; have hO0 := hM.set_ 0 fl
 obtain ⟨g, hg⟩ : ∃ g, w.heap.size = g := ⟨_, rfl⟩
 have hgw : w.heap.size ≤ g := by omega
 rw [hg] at hz hzf; rw [List.getD_eq_getElem?_getD, List.getElem?_replicate, if_pos (by omega)] at hz; dsimp only [Option.getD_some] at hz; have hB0 : Below w.heap.size w ((w.alloc (.cells (madeCells #[.int .i64 0] ns.length) 3)).setCell ⟨w.heap.size, 0, none⟩ (.int .i64 fl)) := ((Below.refl _ w).alloc (Nat.le_refl _) _).setCell (p := ⟨w.heap.size, 0, none⟩) (Nat.le_refl _) _; rw [World.setCell_alloc_at _ _ _ _ _ rfl] at hO0 hB0; have HO0 := Lib.hid hO0; have HB0 := Lib.hid hB0; clear hM hO0 hB0 hc hv; go_enter Try.func195, Try.ntmps195; go_wp2_with fail; clear hmk hz hzf
 go_loopw [6] (fun i wr => ∃ k : Nat, k ≤ ns.length ∧ i = .int .i64 k ∧ OwnI wr w.heap.size (.slice (some ⟨g, 0, none⟩) ns.length ns.length) (jz8 ns fl k) ∧ Below w.heap.size w wr) (fun i _ => ns.length - (intOf i).toNat)
 case atStart => exact ⟨0, Nat.zero_le _, rfl, by subst hg; exact HO0.out, HB0.out⟩
 case round =>
  clear HO0 HB0 hg; obtain ⟨k, hk, rfl, hO, hB⟩ := hrel
  by_cases hlt : k < ns.length
  ·have CK := HKID.out wr hB k
   obtain ⟨q1, q2, q3, q4⟩ := vn_at HV.out hlt; have hcb := comeTo_bd HV.out hf k hk k; have hkl := kids_len ns (k : Int)
   have HKM : Hid (∀ z ∈ jzj ns (k : Int), ∃ j : Nat, z = (j : Int) ∧ j < ns.length) := fun z hz => by obtain ⟨j, a, b, _⟩ := kids_bd hz; exact ⟨j, a, b⟩
   have HO := Lib.hid hO; have HB := Lib.hid hB; have hgb := hO.blk
   have k0 : (0 : Int) ≤ (k : Int) := by omega
   have k1 : (k : Int) < (ns.length : Int) := by omega
   clear hO hB; go_wp2_with fail; refine CK.mono ?_; rintro e w3 ⟨v7, rfl, hK, hB3⟩; obtain ⟨kb, kcp, rfl, _⟩ := hK.ints; have B3 := Lib.hid (jq2 HB.out hB3); have O3 := Lib.hid (HO.out.of_block hB3); have s3 := hB3.size; have kc := O3.out.cell (j := k) (by rw [comeTo_len]; exact hlt); obtain ⟨c0, c1, c2, c3, c4⟩ := nd_at HC.out B3.out hlt; have HK := Lib.hid hK; have HST := Lib.hid (giveS_put HV.out (fl := fl) hlt); have hgl := giveS_len ns (k : Int) (jj3 (ns.getD k nd0) ((jz8 ns fl k).getD k 0)); have hpb := pass_bd (x := ns.getD k nd0) q3.1 hcb.1 q2.1; have HSH := Lib.hid (fun (W : World) (hW : Below w.heap.size w W) => HSHR.out W hW k (jj3 (ns.getD k nd0) ((jz8 ns fl k).getD k 0)) (by omega)); generalize (jz8 ns fl k).getD k 0 = c at hcb kc HST hgl HSH hpb
   have CP := fun W => spassing (ns.getD k nd0).1 (ns.getD k nd0).2.1 (ns.getD k nd0).2.2.1 (ns.getD k nd0).2.2.2.1 (ns.getD k nd0).2.2.2.2 c W hcb q2 q3
   change ∀ W, Calls _ _ _ W (fun e w' => e = .returned (.int .i64 (jj3 (ns.getD k nd0) c)) ∧ Below W.heap.size W w') at CP; generalize ns.getD k nd0 = nd at c0 c1 c2 c3 c4 CP HST hgl q2 q3 HSH hpb; obtain ⟨x0, x1, x2, x3, x4⟩ := nd; dsimp only at c0 c1 c2 c3 c4 CP; generalize jj3 (x0, x1, x2, x3, x4) c = p at CP HST hgl HSH hpb; clear CK hK hB3 HO HB q1 q2 q3 q4 hcb hpb; go_wp2_with fail; refine wp_region_held_drew (S := (fun W' => (W'.cell? ⟨g0, o + k * 5, none⟩ = some (.int .i64 x0) ∧ W'.cell? ⟨g0, o + k * 5 + 1, none⟩ = some (.int .i64 x1) ∧ W'.cell? ⟨g0, o + k * 5 + 2, none⟩ = some (.int .i64 x2) ∧ W'.cell? ⟨g0, o + k * 5 + 3, none⟩ = some (.int .i64 x3) ∧ W'.cell? ⟨g0, o + k * 5 + 4, none⟩ = some (.int .i64 x4) ∧ W'.cell? ⟨g, k, none⟩ = some (.int .i64 c)) ∧ Below w3.heap.size w3 W')) (by kernel_rfl) ?_ (fun hHeld => ?_)
   ·exact ⟨⟨c0, c1, c2, c3, c4, kc⟩, (Below.refl _ _).drew⟩
   refine tk (i := 0) (v := ?v56) rfl ?c56 ?d_56
   case c56 => (refine .inl ⟨by rfl, ?_⟩; intro w h; (try dsimp only at h); go_simp <;> with_reducible rfl)
   try simp only [pt]
   refine tk (i := 1) (v := ?v57) rfl ?c57 ?d_57
   case c57 => (refine .inl ⟨by rfl, ?_⟩; intro w h; (try dsimp only at h); go_simp <;> with_reducible rfl)
   try simp only [pt]
   refine tk (i := 2) (v := ?v58) rfl ?c58 ?d_58
   case c58 => (refine .inl ⟨by rfl, ?_⟩; intro w h; (try dsimp only at h); go_simp <;> with_reducible rfl)
   try simp only [pt]
   refine tk (i := 3) (v := ?v59) rfl ?c59 ?d_59
   case c59 => (refine .inl ⟨by rfl, ?_⟩; intro w h; (try dsimp only at h); go_simp <;> with_reducible rfl)
   try simp only [pt]
   refine tk (i := 4) (v := ?v5a) rfl ?c5a ?d_5a
   case c5a => (refine .inl ⟨by rfl, ?_⟩; intro w h; (try dsimp only at h); go_simp <;> with_reducible rfl)
   try simp only [pt]
   refine tk (i := 5) (v := ?v5b) rfl ?c5b ?d_5b
   case c5b => (refine .inl ⟨by rfl, ?_⟩; intro w h; (try dsimp only at h); go_simp <;> with_reducible rfl)
   try simp only [pt]
   refine tk (i := 6) (v := ?v5c) rfl ?c5c ?d_5c
   case c5c => (refine .inl ⟨by rfl, ?_⟩; intro w h; (try dsimp only at h); go_simp <;> with_reducible rfl)
   try simp only [pt]
   refine tk (i := 7) (v := ?v5d) rfl ?c5d ?d_5d
   case c5d => (refine .inl ⟨by rfl, ?_⟩; intro w h; (try dsimp only at h); go_simp <;> with_reducible rfl)
   try simp only [pt]
   refine tk (i := 8) (v := ?v5e) rfl ?c5e ?d_5e
   case c5e => (refine .inl ⟨by rfl, ?_⟩; intro w h; (try dsimp only at h); go_simp <;> with_reducible rfl)
   try simp only [pt]
   refine tk (i := 9) (v := ?v5f) rfl ?c5f ?d_5f
   case c5f => (refine .inl ⟨by rfl, ?_⟩; intro w h; (try dsimp only at h); go_simp <;> with_reducible rfl)
   try simp only [pt]
   refine wpAnyH_ready (rs := [10]) (by kernel_rfl) (by simp) (AllReadyH.cons (o := ?ooa10) ?hia10 (fun K hK => ?hka10) AllReadyH.nil)
   rotate_left
   case hia10 => (simp only [List.getElem?_toArray, List.getElem?_cons_succ, List.getElem?_cons_zero]; rfl)
   (rw [if_pos (by rfl)]; go_simp; refine (CP _).mono ?_; rintro e wq ⟨rfl, hb⟩; go_wp2_with fail; refine hK.out _ _ (kp6 hb hHeld) (fun hHeld => ?_); clear hK K)
   try simp only [pt]
   refine wpAnyH_ready (rs := [11]) (by kernel_rfl) (by simp) (AllReadyH.cons (o := ?ooa11) ?hia11 (fun K hK => ?hka11) AllReadyH.nil)
   rotate_left
   case hia11 => (simp only [List.getElem?_toArray, List.getElem?_cons_succ, List.getElem?_cons_zero]; rfl)
   (rw [if_pos (by rfl)]; go_simp; refine (HSH.out _ (jq2 B3.out hHeld.2)).mono ?_; rintro e wp ⟨v8, rfl, hG, hb2⟩; obtain ⟨gb, gcp, rfl, _⟩ := hG.ints; go_wp2_with fail; refine hK.out _ _ (kp6 hb2 hHeld) (fun hHeld => ?_); clear hK K)
   try simp only [pt]
   refine tk (i := 12) (v := ?v60) rfl ?c60 ?d_60
   case c60 => (refine .inl ⟨by rfl, ?_⟩; intro w h; (try dsimp only at h); go_simp <;> with_reducible rfl)
   try simp only [pt]
   refine wpAnyH_done (by kernel_rfl) ?_ _; have hW2 : Below w3.heap.size w3 wp := hHeld.2; have B5 := jq2 B3.out hW2; have O5 := O3.out.of_block hW2; have K5 := HK.out.of_block hW2; have hcl := comeTo_len ns fl k; have s5 : w3.heap.size ≤ wq.heap.size := hb.size; have s6 := hb2.size; have s7 := hHeld.2.size; clear hHeld hb hb2 hW2 CP HSH c0 c1 c2 c3 c4 kc B3 O3 HK; generalize jzj ns (k : Int) = ks at K5 HKM hkl hgl HST; generalize giveS ns (k : Int) p = gv at hG hgl HST; generalize jz8 ns fl k = cs at O5 hcl HST; have HO5 := Lib.hid O5; have HK5 := Lib.hid K5; have HG5 := Lib.hid hG; have HB5 := Lib.hid B5; clear O5 K5 hG B5; go_wp2_with fail
   go_loopw [9] (fun i wr => ∃ m : Nat, m ≤ gv.length ∧ i = .int .i64 m ∧ Hid (OwnI wr w.heap.size (.slice (some ⟨g, 0, none⟩) ns.length ns.length) (putTo cs ks gv m) ∧ wp.grownBy wr (some g))) (fun i _ => gv.length - (intOf i).toNat)
   case atStart => exact ⟨0, Nat.zero_le _, rfl, HO5.out, g_of (Below.refl _ _) _⟩
   case round =>
    obtain ⟨m, hm, rfl, HM⟩ := hrel
    by_cases hlm : m < gv.length
    ·have hka := HK5.out.apart HM.out.2 (fun q hq => by have e := Option.some.inj hq; omega)
     have hga2 := HG5.out.apart HM.out.2 (fun q hq => by have e := Option.some.inj hq; omega); obtain ⟨gk, rfl, nk'⟩ := hka.form_ (by omega); obtain ⟨gg, rfl, ng'⟩ := hga2.form_ (by omega)
     have nk : g ≠ gk := by omega
     have ng : g ≠ gg := by omega
     have c1 := hka.cell (j := m) (by omega); have c2 := hga2.cell hlm; obtain ⟨j, hj, hjl⟩ := HKM.out _ (jjh (zs := ks) (k := m) (by omega)); have hpl := putTo_len cs ks gv m; have c3 := HM.out.1.cell (j := j) (by omega); have c4 := HM.out.1.frozen j; have hst := HM.out.1.set_ j (gv.getD m 0); have hps := putTo_succ cs ks gv m; rw [hj, show ((j : Int)).toNat = j from by omega] at hps; rw [← hps] at hst; rw [hj] at c1
     have HS : Hid (∀ n : Nat, OwnI ((wr.drewN n).setCell ⟨g, j, none⟩ (.int .i64 (gv.getD m 0))) w.heap.size (.slice (some ⟨g, 0, none⟩) ns.length ns.length) (putTo cs ks gv (m + 1)) ∧ wp.grownBy ((wr.drewN n).setCell ⟨g, j, none⟩ (.int .i64 (gv.getD m 0))) (some g)) := fun n => ⟨hst, g_set2 (g_drewN HM.out.2 n)⟩
     have b0 : (0 : Int) ≤ (j : Int) := by omega
     have b1 : (j : Int) < (ns.length : Int) := by omega
     have b2 : (m : Int) < (gv.length : Int) := by omega
     have b3 : (m : Int) < (ks.length : Int) := by omega
     have b4 : (0 : Int) ≤ (m : Int) := by omega
     generalize gv.getD m 0 = y at c2 HS; generalize (putTo cs ks gv m).getD j 0 = y3 at c3; clear hst hps hj hpl HM hka hga2; go_wp2_with fail; refine wp_region_held_drew (S := (fun W' => W'.cell? ⟨gk, m, none⟩ = some (.int .i64 (j : Int)) ∧ W'.cell? ⟨gg, m, none⟩ = some (.int .i64 y))) (by kernel_rfl) ?_ (fun hHeld => ?_)
     ·exact ⟨c1, c2⟩
     refine tk (i := 0) (v := ?v61) rfl ?c61 ?d_61
     case c61 => (refine .inl ⟨by rfl, ?_⟩; intro w h; (try dsimp only at h); go_simp <;> with_reducible rfl)
     try simp only [pt]
     refine tk (i := 1) (v := ?v62) rfl ?c62 ?d_62
     case c62 => (refine .inl ⟨by rfl, ?_⟩; intro w h; (try dsimp only at h); go_simp <;> with_reducible rfl)
     try simp only [pt]
     refine tk (i := 2) (v := ?v63) rfl ?c63 ?d_63
     case c63 => (refine .inl ⟨by rfl, ?_⟩; intro w h; (try dsimp only at h); go_simp <;> with_reducible rfl)
     try simp only [pt]
     refine tk (i := 3) (v := ?v64) rfl ?c64 ?d_64
     case c64 => (refine .inl ⟨by rfl, ?_⟩; intro w h; (try dsimp only at h); go_simp <;> with_reducible rfl)
     try simp only [pt]
     refine tk (i := 4) (v := ?v65) rfl ?c65 ?d_65
     case c65 => (refine .inl ⟨by rfl, ?_⟩; intro w h; (try dsimp only at h); go_simp <;> with_reducible rfl)
     try simp only [pt]
     refine tk (i := 5) (v := ?v66) rfl ?c66 ?d_66
     case c66 => (refine .inl ⟨by rfl, ?_⟩; intro w h; (try dsimp only at h); go_simp <;> with_reducible rfl)
     try simp only [pt]
     refine tk (i := 6) (v := ?v67) rfl ?c67 ?d_67
     case c67 => (refine .inl ⟨by rfl, ?_⟩; intro w h; (try dsimp only at h); go_simp <;> with_reducible rfl)
     try simp only [pt]
     refine tk (i := 7) (v := ?v68) rfl ?c68 ?d_68
     case c68 => (refine .inl ⟨by rfl, ?_⟩; intro w h; (try dsimp only at h); go_simp <;> with_reducible rfl)
     try simp only [pt]
     refine tk (i := 8) (v := ?v69) rfl ?c69 ?d_69
     case c69 => (refine .inl ⟨by rfl, ?_⟩; intro w h; (try dsimp only at h); go_simp <;> with_reducible rfl)
     try simp only [pt]
     refine tk (i := 9) (v := ?v6a) rfl ?c6a ?d_6a
     case c6a => (refine .inl ⟨by rfl, ?_⟩; intro w h; (try dsimp only at h); go_simp <;> with_reducible rfl)
     try simp only [pt]
     refine wpAnyH_ready (rs := [10]) (by kernel_rfl) (by simp) (AllReadyH.cons (o := ?oob10) ?hib10 (fun K hK => ?hkb10) AllReadyH.nil)
     rotate_left
     case hib10 => (simp only [List.getElem?_toArray, List.getElem?_cons_succ, List.getElem?_cons_zero]; rfl)
     (rw [if_pos (by rfl)]; go_simp; refine hK.out _ _ (⟨(World.cell?_setCell_other _ _ _ _ (fun e => nk (congrArg Addr.block e))).trans hHeld.1, (World.cell?_setCell_other _ _ _ _ (fun e => ng (congrArg Addr.block e))).trans hHeld.2⟩) (fun hHeld => ?_); clear hK K)
     try simp only [pt]
     refine wpAnyH_done (by kernel_rfl) ?_ _; go_wp2_with fail
     go_roundw
     case rel => exact ⟨m + 1, by omega, by go_num, HS.out 1⟩
     case measure => simp [intOf]; omega
    ·have HE : Hid (OwnI wr w.heap.size (.slice (some ⟨g, 0, none⟩) ns.length ns.length) (jz8 ns fl (k + 1)) ∧ Below w.heap.size w wr) := by
      refine ⟨?_, below_gv HB5.out HM.out.2 (fun q hq => by have e := Option.some.inj hq; omega)⟩; rw [← HST.out]; have := HM.out.1; rw [show m = ks.length from by omega] at this; exact this
     have hmk2 : (m : Int) = (ks.length : Int) := by omega
     clear HM; go_wp2_with fail
     go_roundw
     case rel => exact ⟨k + 1, by omega, by go_num, HE.out⟩
     case measure => simp [intOf]; omega
  ·have HO := Lib.hid hO
   have HB := Lib.hid hB; clear hO hB; go_wp2_with fail; go_ret; exact ⟨_, rfl, by rw [show k = ns.length from by omega] at HO; exact HO.out, HB.out⟩
theorem got_bd {ns : List Nd} (hv : vnB ns = true) {fl : Int} (hf : 0 ≤ fl ∧ fl ≤ 500) (k : Int) : ∀ m, m ≤ (jzj ns k).length → 0 ≤ ((gotL ns fl k).take m).sum ∧ ((gotL ns fl k).take m).sum ≤ 500 * (m : Int) := by
  intro m
  induction m with
  | zero => intro _; exact ⟨Int.le_refl _, by show (0 : Int) ≤ 500 * ((0 : Nat) : Int); omega⟩
  | succ m ih =>
    intro hm; have a := ih (by omega); rw [take_sum _ m (by rw [gotL_len]; omega), gotL_get ns fl k (by omega)]
    have b := come_bd hv hf ((jzj ns k).getD m 0).toNat
    omega
theorem sLost (a : Option Addr) (cap : Nat) (ns : List Nd) (fl : Int) (w : World) (h : IsNd w a ns) (hn : ns.length ≤ 1048576) :
    Calls Try.prog 188 #[.slice a ns.length cap, .int .i64 fl] w fun e w' => e = .returned (.int .i64 (jzh ns fl)) ∧ Below w.heap.size w w' := by
  have VN := svn a cap ns _ h hn
  have CW := fun W => sinRange fl 0 500 W
  cases hv : vnB ns with
  | false =>
    rw [lost_no (flB_no (.inl hv))]; rw [hv] at VN; clear hv h; go_enter Try.func188, Try.ntmps188; go_wp2_with fail; refine VN.mono ?_; rintro e w1 ⟨rfl, C⟩; go_wp2_with fail; go_ret; exact ⟨rfl, C⟩
  | true =>
  rw [hv] at VN
  cases hw : (decide (0 ≤ fl) && decide (fl ≤ 500)) with
  | false =>
    rw [lost_no (flB_no (.inr hw))]; rw [hw] at CW; clear hv hw h; go_enter Try.func188, Try.ntmps188; go_wp2_with fail; refine VN.mono ?_; rintro e w1 ⟨rfl, C⟩; go_wp2_with fail; refine (CW _).mono ?_; rintro e w' ⟨rfl, rfl⟩; go_wp2_with fail; go_ret; exact ⟨rfl, C⟩
  | true =>
  have hb : flB ns fl = true := by unfold flB; rw [hv, hw]; rfl
  rw [hw] at CW; have hf := (flB_is hb).2; rw [lost_yes hb]; obtain ⟨l1, l12, _⟩ := vn_is hv; have HF := Lib.hid (fun (W : World) (hW : Below w.heap.size w W) => sflows a cap ns fl W (nd_below h hW) hv hf); have HKID := Lib.hid (fun (W : World) (hW : Below w.heap.size w W) (k : Nat) => skids a cap ns (k : Int) W (nd_below h hW) hv); have HV := Lib.hid hv
  rcases h with rfl | ⟨g0, o, rfl, hc⟩
  · simp at l1
  have HC := Lib.hid hc; clear hb hw hc hv; go_enter Try.func188, Try.ntmps188; go_wp2_with fail; refine VN.mono ?_; rintro e w1 ⟨rfl, C⟩; go_wp2_with fail; refine (CW _).mono ?_; rintro e w' ⟨rfl, rfl⟩; clear VN CW; go_wp2_with fail; refine (HF.out w1 C).mono ?_; rintro e w2 ⟨v5, rfl, hO, hB⟩; have hcl : (jjj ns fl).length = ns.length := comeTo_len ns fl _; obtain ⟨cb, cc, rfl, _⟩ := hO.ints; obtain ⟨gc, rfl, hgc⟩ := hO.form_ (by omega); rw [hcl] at hO ⊢; have HO2 : Hid (OwnI w2 w1.heap.size (.slice (some ⟨gc, 0, none⟩) ns.length cc) (jjj ns fl)) := hO; have HB2 := Lib.hid (jq2 C hB); clear hO hB C HF; go_wp2_with fail
  obtain ⟨V, hV⟩ : ∃ V, V = w2 := ⟨_, rfl⟩
  subst hV
  go_loopw [6, 7] (fun s i wr => ∃ k : Nat, k ≤ ns.length ∧ i = .int .i64 k ∧ s = .int .i64 (lostTo ns fl k) ∧ Below V.heap.size V wr) (fun _ i _ => ns.length - (intOf i).toNat)
  case atStart => exact ⟨0, Nat.zero_le _, rfl, rfl, Below.refl _ _⟩
  case round =>
    obtain ⟨k, hk, rfl, rfl, hB⟩ := hrel; obtain ⟨s0, s1⟩ := lost_bd HV.out hf k hk
    have s2 : lostTo ns fl k ≤ 6000 := by omega
    by_cases hlt : k < ns.length
    · have CK := HKID.out wr (jq2 HB2.out hB) k
      have hls := lostTo_succ ns fl k; rw [loss_got HV.out hf hlt] at hls; have hkl := kids_len ns (k : Int)
      have HKM : Hid (∀ z ∈ jzj ns (k : Int), ∃ j : Nat, z = (j : Int) ∧ j < ns.length) := fun z hz => by obtain ⟨j, a, b, _⟩ := kids_bd hz; exact ⟨j, a, b⟩
      have HGB := Lib.hid (got_bd HV.out hf (k : Int)); have HGG := Lib.hid (fun m (hm : m < (jzj ns (k : Int)).length) => gotL_get ns fl (k : Int) hm); have hgl := gotL_len ns fl (k : Int); have HLS := Lib.hid hls; have HB := Lib.hid hB; clear hls hB s1; generalize lostTo ns fl k = s at HLS s0 s2; go_wp2_with fail; refine CK.mono ?_; rintro e w5 ⟨v8, rfl, hK, hB3⟩; obtain ⟨kb, kcp, rfl, _⟩ := hK.ints; have B5 := Lib.hid (jq2 HB.out hB3); have O5 := Lib.hid (HO2.out.of_block B5.out); have HK := Lib.hid hK; clear CK hK hB3 HB; generalize jzj ns (k : Int) = ks at HKM HGB HGG hgl hkl HLS HK; generalize gotL ns fl (k : Int) = gl at HGB HGG hgl HLS; go_wp2_with fail
      go_loop [9, 10] (fun g i => ∃ m : Nat, m ≤ ks.length ∧ i = .int .i64 m ∧ g = .int .i64 (gl.take m).sum) (fun _ i => ks.length - (intOf i).toNat)
      case atStart => exact ⟨0, Nat.zero_le _, rfl, rfl⟩
      case round =>
        obtain ⟨m, hm, rfl, rfl⟩ := hrel; obtain ⟨t0, t1⟩ := HGB.out m hm
        by_cases hlm : m < ks.length
        · obtain ⟨gk, rfl, _⟩ := HK.out.form_ (by omega)
          have c1 := HK.out.cell hlm; obtain ⟨j, hj, hjl⟩ := HKM.out _ (jjh hlm); have c2 := O5.out.cell (j := j) (by omega); have hcb := come_bd HV.out hf j; have ht := take_sum gl m (by omega); rw [HGG.out m hlm, hj, show ((j : Int)).toNat = j from by omega] at ht; rw [hj] at c1; generalize (jjj ns fl).getD j 0 = y at c2 hcb ht; generalize (gl.take m).sum = t at t0 t1 ht; have HT := Lib.hid ht
          have b0 : (0 : Int) ≤ (j : Int) := by omega
          have b1 : (j : Int) < (ns.length : Int) := by omega
          have t2 : t ≤ 6000 := by omega
          clear ht hj; go_wp2_with fail
          go_round
          case rel => exact ⟨m + 1, by omega, by go_num, by rw [HT.out]⟩
          case measure => simp [intOf]; omega
        · have hm2 : m = ks.length := by omega
          subst hm2; rw [List.take_of_length_le (by omega)] at t0 t1 ⊢; obtain ⟨c0, c1, c2, c3, c4⟩ := nd_at HC.out (jq2 HB2.out B5.out) hlt; have kc := O5.out.cell (j := k) (by omega); have hcb := come_bd HV.out hf k; have hpb := passF_bd HV.out hf hlt; obtain ⟨q1, q2, q3, q4⟩ := vn_at HV.out hlt; have hpg := passF_get ns fl hlt
          have k0 : (0 : Int) ≤ (k : Int) := by omega
          have k1 : (k : Int) < (ns.length : Int) := by omega
          have t2 : gl.sum ≤ 6000 := by omega
          by_cases hz : ks.length = 0
          · have hls := HLS.out
            rw [if_pos hz] at hls
            have CP := fun W => spassing (ns.getD k nd0).1 (ns.getD k nd0).2.1 (ns.getD k nd0).2.2.1 (ns.getD k nd0).2.2.2.1 (ns.getD k nd0).2.2.2.2 ((jjj ns fl).getD k 0) W hcb q2 q3
            change ∀ W, Calls _ _ _ W (fun e w' => e = .returned (.int .i64 (jj3 (ns.getD k nd0) ((jjj ns fl).getD k 0))) ∧ Below W.heap.size W w') at CP; rw [← hpg] at CP
            have kcW : ∀ W, Below w5.heap.size w5 W → W.cell? ⟨gc, k, none⟩ = some (.int .i64 ((jjj ns fl).getD k 0)) := fun W hW => (hW.cell (World.block_lt_of_cell? w5 _ kc)).trans kc
            have HKW := Lib.hid kcW; generalize (jjj ns fl).getD k 0 = c at kc CP hcb hpb hls HKW; generalize ns.getD k nd0 = nd at c0 c1 c2 c3 c4 CP hpb; obtain ⟨x0, x1, x2, x3, x4⟩ := nd; dsimp only at c0 c1 c2 c3 c4 CP; generalize (passF ns fl).getD k 0 = p at CP hpb hls
            obtain ⟨n, hnn⟩ : ∃ n, ks.length = n := ⟨_, rfl⟩
            rw [hnn] at hz ⊢; subst hz; have HLS2 := Lib.hid hls; have p0 := hpb.1; have p1 := hpb.2.1; clear hls hnn hpb q1 q2 q3 q4 hpg kcW HLS; generalize gl.sum = gs at t0 t1 t2; go_wp2_with fail; refine wp_region_held_drew (S := (fun W' => (W'.cell? ⟨g0, o + k * 5, none⟩ = some (.int .i64 x0) ∧ W'.cell? ⟨g0, o + k * 5 + 1, none⟩ = some (.int .i64 x1) ∧ W'.cell? ⟨g0, o + k * 5 + 2, none⟩ = some (.int .i64 x2) ∧ W'.cell? ⟨g0, o + k * 5 + 3, none⟩ = some (.int .i64 x3) ∧ W'.cell? ⟨g0, o + k * 5 + 4, none⟩ = some (.int .i64 x4) ∧ W'.cell? ⟨gc, k, none⟩ = some (.int .i64 c)) ∧ Below w5.heap.size w5 W')) (by kernel_rfl) ?_ (fun hHeld => ?_)
            · exact ⟨⟨c0, c1, c2, c3, c4, kc⟩, (Below.refl _ _).drew⟩
            refine tk (i := 0) (v := ?v6b) rfl ?c6b ?d_6b
            case c6b => (refine .inl ⟨by rfl, ?_⟩; intro w h; (try dsimp only at h); go_simp <;> with_reducible rfl)
            try simp only [pt]
            refine tk (i := 1) (v := ?v6c) rfl ?c6c ?d_6c
            case c6c => (refine .inl ⟨by rfl, ?_⟩; intro w h; (try dsimp only at h); go_simp <;> with_reducible rfl)
            try simp only [pt]
            refine tk (i := 2) (v := ?v6d) rfl ?c6d ?d_6d
            case c6d => (refine .inl ⟨by rfl, ?_⟩; intro w h; (try dsimp only at h); go_simp <;> with_reducible rfl)
            try simp only [pt]
            refine tk (i := 3) (v := ?v6e) rfl ?c6e ?d_6e
            case c6e => (refine .inl ⟨by rfl, ?_⟩; intro w h; (try dsimp only at h); go_simp <;> with_reducible rfl)
            try simp only [pt]
            refine tk (i := 4) (v := ?v6f) rfl ?c6f ?d_6f
            case c6f => (refine .inl ⟨by rfl, ?_⟩; intro w h; (try dsimp only at h); go_simp <;> with_reducible rfl)
            try simp only [pt]
            refine tk (i := 5) (v := ?v70) rfl ?c70 ?d_70
            case c70 => (refine .inl ⟨by rfl, ?_⟩; intro w h; (try dsimp only at h); go_simp <;> with_reducible rfl)
            try simp only [pt]
            refine tk (i := 6) (v := ?v71) rfl ?c71 ?d_71
            case c71 => (refine .inl ⟨by rfl, ?_⟩; intro w h; (try dsimp only at h); go_simp <;> with_reducible rfl)
            try simp only [pt]
            refine tk (i := 7) (v := ?v72) rfl ?c72 ?d_72
            case c72 => (refine .inl ⟨by rfl, ?_⟩; intro w h; (try dsimp only at h); go_simp <;> with_reducible rfl)
            try simp only [pt]
            refine wpAnyH_ready (rs := [8]) (by kernel_rfl) (by simp) (AllReadyH.cons (o := ?ooa8) ?hia8 (fun K hK => ?hka8) AllReadyH.nil)
            rotate_left
            case hia8 => (simp only [List.getElem?_toArray, List.getElem?_cons_succ, List.getElem?_cons_zero]; rfl)
            (rw [if_pos (by rfl)]; go_simp; refine (CP _).mono ?_; rintro e wp ⟨rfl, hb2⟩; go_wp2_with fail; refine hK.out _ _ (kp6 hb2 hHeld) (fun hHeld => ?_); clear hK K)
            try simp only [pt]
            refine tk (i := 9) (v := ?v73) rfl ?c73 ?d_73
            case c73 => (refine .inl ⟨by rfl, ?_⟩; intro w h; (try dsimp only at h); go_simp <;> with_reducible rfl)
            try simp only [pt]
            refine wpAnyH_done (by kernel_rfl) ?_ _; have kc2 := HKW.out wp hHeld.2; have HB6 := Lib.hid (jq2 B5.out hHeld.2); clear hHeld hb2 CP c0 c1 c2 c3 c4 kc; go_wp2_with fail
            go_roundw
            case rel => exact ⟨k + 1, by omega, by go_num, by rw [HLS2.out, show s + (c - p) = s + c - p from by omega], HB6.out⟩
            case measure => simp [intOf]; omega
          · have hls := HLS.out
            rw [if_neg hz] at hls; have z0 : ((ks.length : Int) == 0) = false := beq_eq_false_iff_ne.2 (by omega); have z1 : (ks.length == 0) = false := beq_eq_false_iff_ne.2 hz
            have z2 : ¬ ks = [] := fun e => hz (by rw [e]; rfl)
            have HLS2 := Lib.hid hls; generalize (jjj ns fl).getD k 0 = c at kc hcb HLS2; generalize gl.sum = gs at t0 t1 t2 HLS2; have HB6 := Lib.hid B5.out; clear hls c0 c1 c2 c3 c4 q1 q2 q3 q4 hpg hpb HLS; go_wp2_with fail
            go_roundw
            case rel => exact ⟨k + 1, by omega, by go_num, by rw [HLS2.out, show s + (c - gs) = s + c - gs from by omega], HB6.out⟩
            case measure => simp [intOf]; omega
    · have H4 := Lib.hid (jq2 HB2.out hB)
      clear hB; go_wp2_with fail; go_ret; exact ⟨jze (by rw [show k = ns.length from by omega]), H4.out⟩
theorem sturnAt (a : Option Addr) (cap : Nat) (ts : List Tn) (t : Int) (w : World) (h : IsTn w a ts) (hv : vtB ts = true) (t0 : 0 ≤ t) (t1 : t ≤ 1000000) :
  Calls Try.prog 191 #[.slice a ts.length cap, .int .i64 t] w fun e w' => e = .returned (.int .i64 (idxT ts (t % sumT ts) : Nat)) ∧ w = w' := by
 obtain ⟨l1, l2, ho, s0, s1⟩ := vt_is hv; have H := Lib.hid h; have SP := speriod a cap ts w h (by omega) (vt_hz ho)
 rcases h with rfl | ⟨g, o, rfl, hc⟩
 ·simp at l1
 have HC := Lib.hid hc; have HO := Lib.hid ho
 have HP : Hid (∀ j, j < ts.length → 0 ≤ (ts.getD j tn0).2) := fun j hj => (vt_hz ho j hj).1
 have r0 := Int.emod_nonneg t (show sumT ts ≠ 0 by omega); have r1 := Int.emod_lt_of_pos t (show 0 < sumT ts by omega); have HR : Hid (t % sumT ts < sumT ts) := r1
 obtain ⟨r, hr⟩ : ∃ r, t % sumT ts = r := ⟨_, rfl⟩
 rw [hr] at HR r0 r1 ⊢
 obtain ⟨S, hS⟩ : ∃ S, sumT ts = S := ⟨_, rfl⟩
 rw [hS] at hr SP s0 s1 r1; have HS := Lib.hid hS; clear hc ho hv hS; go_enter Try.func191, Try.ntmps191; go_wp2_with fail; refine SP.mono ?_; rintro e w' ⟨rfl, rfl⟩; go_wp2_with fail
 go_loop [1, 5] (fun x i => ∃ k : Nat, k < ts.length ∧ i = .int .i64 k ∧ x = .int .i64 (r - sumT (ts.take k)) ∧ Hid (sumT (ts.take k) ≤ r)) (fun _ i => ts.length - (intOf i).toNat)
 case atStart => exact ⟨0, by omega, rfl, by show Value.int .i64 (t % S) = Value.int .i64 (r - 0); rw [hr]; simp, r0⟩
 case round =>
  obtain ⟨k, hlt, rfl, rfl, hle⟩ := hrel; obtain ⟨c0, c1⟩ := HC.out k hlt; have hs := sumT_succ hlt; have ok := (okT_iff ts k).1 (HO.out k hlt); have hsl := sumT_pos k ts (fun j hj => HP.out j (by omega))
  have hidx : r < sumT (ts.take (k + 1)) → idxT ts r = k := fun c => idx_at k ts r hlt HP.out hle.out c
  have hmore : sumT (ts.take (k + 1)) ≤ r → k + 1 < ts.length := fun c => by
   rcases Nat.lt_or_ge (k + 1) ts.length with h | h
   ·exact h
   ·have e : k + 1 = ts.length := by omega
    rw [e, sumT_all] at c; have := HR.out
    omega
  rw [hs] at hidx hmore; have hle2 := hle.out; generalize ts.getD k tn0 = hh at c0 c1 hs hidx hmore ok; obtain ⟨x, y⟩ := hh; dsimp only at c0 c1 hs hidx hmore ok; have y0 : 1 ≤ y := ok.2.2.1; have y1 : y ≤ 336 := ok.2.2.2; generalize sumT (ts.take k) = s at hs hidx hmore hle hle2 hsl; have HSs := Lib.hid hs; have HI := Lib.hid hidx; have HM := Lib.hid hmore; clear hs hidx hmore ok
  by_cases c : y ≤ r - s
  ·have HM2 := HM.out (by omega)
   have e1 : decide (y ≤ r - s) = true := decide_eq_true c
   have hle3 : Hid (s + y ≤ r) := by show s + y ≤ r; omega
   clear hle hle2
   go_wp2
   go_round
   case rel => exact ⟨k + 1, HM2, by go_num, by rw [HSs.out]; congr 1; omega, by rw [HSs.out]; exact hle3.out⟩
   case measure => simp [intOf]; omega
  ·have e1 : decide (y ≤ r - s) = false := decide_eq_false c
   have HI2 := Lib.hid (HI.out (by omega)); clear hle hle2 c
   go_wp2
   go_ret; exact ⟨jze (by rw [HI2.out]), rfl⟩
theorem vl_len {hs : List Hd} (h : vlR hs = true) : hs.length ≤ 12 := by
 unfold vlR at h; simp only [Bool.and_eq_true, decide_eq_true_eq] at h; exact h.1.1.1
theorem dec_len19 {m : Nat} (h : m ≤ 1000000000000000) : (decL m).length ≤ 16 := dec_len 15 m (by omega)
theorem jz1 {a b : ByteArray} (h : a = b) : Ending.returned (.string a) = .returned (.string b) := by rw [h]
theorem jz2 (a b : List UInt8) (w : World) (h : a.length + b.length ≤ 9223372036854775807) : (Op.stringOp .add (txt a) (txt b)).run Try.prog w = .ok (.string (txt (a ++ b))) w := by
 rw [run_string_add_sum w _ _ (by rw [txt_size, txt_size]; exact h), txt_app]
theorem idec (m : Nat) (w : World) (h : m ≤ 1000000000000000) :
  Calls Try.prog 72 #[.int .i64 (m : Int)] w fun e w' => e = .returned (.string (txt (decL m))) ∧ w = w' := by
 have hl := dec_len19 h; have hx := digs_ext (m % 10) (by omega); go_enter Try.func72, Try.ntmps72; go_wp2_with fail
 go_loop [0, 4] (fun n t => ∃ (k : Nat) (l : List UInt8), k ≤ m ∧ n = .int .i64 (k : Int) ∧ t = .string (txt l) ∧ Hid (DecI m k l)) (fun n _ => (intOf n).toNat)
 case atStart => exact ⟨m, [ofDig (m % 10)], Nat.le_refl _, rfl, congrArg Value.string hx, decI_start m⟩
 case round =>
  obtain ⟨k, l, hk, rfl, rfl, HI⟩ := hrel
  by_cases hlt : k < 10
  ·have e : l = decL m := by
    rcases HI.out.2 with h | h
    ·exact h.2
    ·omega
   subst e; go_wp2_with fail; go_ret; exact ⟨rfl, rfl⟩
  ·have hx := digs_ext (k / 10 % 10) (by omega)
   have hll := HI.out.1; have hadd := jz2 [ofDig (k / 10 % 10)] l w (by simp; omega); have HN := Lib.hid (decI_step HI.out (by omega)); have HS : Hid (([ofDig (k / 10 % 10)] : List UInt8) ++ l = ofDig (k / 10 % 10) :: l) := Lib.hid rfl; generalize [ofDig (k / 10 % 10)] = d at *; go_wp2_with fail
   go_round
   case rel => exact ⟨k / 10, _, by omega, by go_num, rfl, by rw [HS.out]; exact HN.out⟩
   case measure => simp [intOf]; omega
theorem snum : ∀ (j m : Nat) (n : Int) (w : World), n = m → m ≤ j → m ≤ 1000000000000000 →
    Calls Try.prog 143 #[.int .i64 n] w fun e w' => e = .returned (.string (txt (decL m))) ∧ w = w' := by
  intro j
  induction j with
  | zero =>
    intro m n w hn hj hm
    have e : m = 0 := by omega
    subst e hn; have hx : ({ data := #[48, 49, 50, 51, 52, 53, 54, 55, 56, 57] } : ByteArray).extract 0 1 = txt [ofDig 0] := digs_ext 0 (by omega); have HD := Lib.hid (decL_lt (n := 0) (by omega)); go_enter Try.func143, Try.ntmps143; go_wp2_with fail; go_ret; exact ⟨jz1 (by rw [HD.out]), rfl⟩
  | succ j ih =>
    intro m n w hn hj hm; subst hn
    by_cases h : m < 10
    · have hx := digs_ext m h
      have HD := Lib.hid (decL_lt h); go_enter Try.func143, Try.ntmps143; go_wp2_with fail; go_ret; exact ⟨jz1 (by rw [HD.out]), rfl⟩
    · have l1 := dec_len19 (m := m / 10) (by omega)
      have l2 := dec_len19 (m := m % 10) (by omega); have HD := Lib.hid (show decL m = decL (m / 10) ++ decL (m % 10) by rw [decL_ge h, decL_lt (n := m % 10) (by omega)])
      have hadd := fun w => jz2 (decL (m / 10)) (decL (m % 10)) w (by omega)
      go_enter Try.func143, Try.ntmps143; go_wp2_with fail; refine (ih (m / 10) _ _ (by omega) (by omega) (by omega)).mono ?_; rintro e w' ⟨rfl, rfl⟩; go_wp2_with fail; refine (ih (m % 10) _ _ (by omega) (by omega) (by omega)).mono ?_; rintro e w' ⟨rfl, rfl⟩; go_wp2_with fail; go_ret; exact ⟨jz1 (by rw [HD.out]), rfl⟩
theorem iidx (s : ByteArray) (c : Nat) (w : World) (h : s.size ≤ 4294967296) :
  Calls Try.prog 70 #[.string s, .int .u8 (c : Int)] w fun e w' => e = .returned (.int .i64 (idxI c s)) ∧ w = w' := by
 have hb := get_bt s; go_enter Try.func70, Try.ntmps70; go_wp2_with fail
 go_loop [5] (fun i => ∃ k : Nat, k ≤ s.size ∧ i = .int .i64 k ∧ Hid (∀ j, j < k → bt s j ≠ c)) (fun i => s.size - (intOf i).toNat)
 case atStart => exact ⟨0, Nat.zero_le _, rfl, fun j hj => by omega⟩
 case round =>
  obtain ⟨k, hk, rfl, HI⟩ := hrel
  by_cases hlt : k < s.size
  ·by_cases hc : bt s k = c
   ·have HX := Lib.hid (idx_is hlt hc HI.out)
    have ec : (bt s k == (c : Int)) = true := by rw [beq_iff_eq]; exact hc
    clear hc; go_wp2_with fail; go_ret; exact ⟨jze HX.out.symm, rfl⟩
   ·have HY : Hid (∀ j, j < k + 1 → bt s j ≠ c) := fun j hj => by
     by_cases e : j = k
     ·subst e; exact hc
     ·exact HI.out j (by omega)
    have ec : (bt s k == (c : Int)) = false := by rw [beq_eq_false_iff_ne]; exact hc
    clear hc; go_wp2_with fail
    go_round
    case rel => exact ⟨k + 1, by omega, by go_num, HY⟩
    case measure => simp [intOf]; omega
  ·have HX := Lib.hid (idx_none (c := c) (s := s) (fun j hj => HI.out j (by omega)))
   go_wp2_with fail; go_ret; exact ⟨jze HX.out.symm, rfl⟩
theorem iread (s : ByteArray) (w : World) (h : s.size ≤ 4294967296) :
  Calls Try.prog 127 #[.string s] w fun e w' => e = .returned (.int .i64 (rdS 10000000 s)) ∧ w = w' := by
 have hb := get_bt s
 by_cases h7 : 7 < s.size
 ·have HX := Lib.hid (rdS_long h7)
  go_enter Try.func127, Try.ntmps127; go_wp2_with fail; go_ret; exact ⟨jze HX.out.symm, rfl⟩
 ·by_cases h1 : s.size = 0
  ·have HX := Lib.hid (rdS_empty 10000000 h1)
   go_enter Try.func127, Try.ntmps127; go_wp2_with fail; go_ret; exact ⟨jze HX.out.symm, rfl⟩
  ·by_cases hl : bt s 0 = 48 ∧ 1 < s.size
   ·have HX := Lib.hid (rdS_lead 10000000 hl.2 hl.1)
    obtain ⟨hl1, hl2⟩ := hl; go_enter Try.func127, Try.ntmps127; go_wp2_with fail; go_ret; exact ⟨jze HX.out.symm, rfl⟩
   ·by_cases e48 : bt s 0 = 48
    ·have e1 : s.size = 1 := by omega
     have HL : Hid (s.size = 1 ∨ bt s 0 ≠ 48) := .inl e1; go_enter Try.func127, Try.ntmps127; go_wp2_with fail
     go_loop [3, 4] (fun n i => ∃ k : Nat, k ≤ s.size ∧ i = .int .i64 k ∧ n = .int .i64 (vt s k : Int) ∧ Hid (∀ j, j < k → 48 ≤ bt s j ∧ bt s j ≤ 57)) (fun _ i => s.size - (intOf i).toNat)
     case atStart => exact ⟨0, Nat.zero_le _, rfl, by rw [vt_zero]; rfl, fun j hj => by omega⟩
     case round =>
      obtain ⟨k, hk, rfl, rfl, HI⟩ := hrel; have hv : vt s k < 10000000 := Nat.lt_of_lt_of_le (vt_bd hk HI.out) (Nat.pow_le_pow_right (n := 10) (by omega) (show k ≤ 7 by omega))
      by_cases hlt : k < s.size
      ·have b1 := bt_bd s k
       by_cases h48 : bt s k < 48
       ·have HX := Lib.hid (rdS_not (lim := 10000000) hlt (.inl h48))
        go_wp2_with fail; go_ret; exact ⟨jze HX.out.symm, rfl⟩
       ·by_cases h57 : 57 < bt s k
        ·have HX := Lib.hid (rdS_not (lim := 10000000) hlt (.inr h57))
         go_wp2_with fail; go_ret; exact ⟨jze HX.out.symm, rfl⟩
        ·have HY : Hid (∀ j, j < k + 1 → 48 ≤ bt s j ∧ bt s j ≤ 57) := fun j hj => by
          by_cases e : j = k
          ·subst e; omega
          ·exact HI.out j (by omega)
         have HV := Lib.hid (vt_succ hlt (by omega)); generalize vt s k = x at *
         have t1 : IntKind.u8.wrap (bt s k - 48) = bt s k - 48 := by rw [IntKind.wrap_u8]; omega
         go_wp2_with fail
         go_round
         case rel => exact ⟨k + 1, by omega, by go_num, by rw [HV.out], HY⟩
         case measure => simp [intOf]; omega
      ·have e : k = s.size := by omega
       have HX := Lib.hid (rdS_full (lim := 10000000) (by omega) (fun j hj => HI.out j (by omega)) HL.out (by rw [← e]; exact hv)); rw [← e] at HX; go_wp2_with fail; go_ret; exact ⟨jze (by rw [HX.out, e, e1]), rfl⟩
    ·have HL : Hid (s.size = 1 ∨ bt s 0 ≠ 48) := .inr e48
     go_enter Try.func127, Try.ntmps127; go_wp2_with fail
     go_loop [3, 4] (fun n i => ∃ k : Nat, k ≤ s.size ∧ i = .int .i64 k ∧ n = .int .i64 (vt s k : Int) ∧ Hid (∀ j, j < k → 48 ≤ bt s j ∧ bt s j ≤ 57)) (fun _ i => s.size - (intOf i).toNat)
     case atStart => exact ⟨0, Nat.zero_le _, rfl, by rw [vt_zero]; rfl, fun j hj => by omega⟩
     case round =>
      obtain ⟨k, hk, rfl, rfl, HI⟩ := hrel; have hv : vt s k < 10000000 := Nat.lt_of_lt_of_le (vt_bd hk HI.out) (Nat.pow_le_pow_right (n := 10) (by omega) (show k ≤ 7 by omega))
      by_cases hlt : k < s.size
      ·have b1 := bt_bd s k
       by_cases h48 : bt s k < 48
       ·have HX := Lib.hid (rdS_not (lim := 10000000) hlt (.inl h48))
        go_wp2_with fail; go_ret; exact ⟨jze HX.out.symm, rfl⟩
       ·by_cases h57 : 57 < bt s k
        ·have HX := Lib.hid (rdS_not (lim := 10000000) hlt (.inr h57))
         go_wp2_with fail; go_ret; exact ⟨jze HX.out.symm, rfl⟩
        ·have HY : Hid (∀ j, j < k + 1 → 48 ≤ bt s j ∧ bt s j ≤ 57) := fun j hj => by
          by_cases e : j = k
          ·subst e; omega
          ·exact HI.out j (by omega)
         have HV := Lib.hid (vt_succ hlt (by omega)); generalize vt s k = x at *
         have t1 : IntKind.u8.wrap (bt s k - 48) = bt s k - 48 := by rw [IntKind.wrap_u8]; omega
         go_wp2_with fail
         go_round
         case rel => exact ⟨k + 1, by omega, by go_num, by rw [HV.out], HY⟩
         case measure => simp [intOf]; omega
      ·have e : k = s.size := by omega
       have HX := Lib.hid (rdS_full (lim := 10000000) (by omega) (fun j hj => HI.out j (by omega)) HL.out (by rw [← e]; exact hv)); rw [← e] at HX; go_wp2_with fail; go_ret; exact ⟨jze (by rw [HX.out, e]), rfl⟩
theorem sread (s : ByteArray) (w : World) (h : s.size ≤ 4294967296) :
    Calls Try.prog 184 #[.string s] w fun e w' => e = .returned (.int .i64 (rdS 1000000 s)) ∧ w = w' := by
  have hb := get_bt s; go_enter Try.func184, Try.ntmps184; go_wp2_with fail
  go_loop [3, 4] (fun n i => ∃ k : Nat, k ≤ s.size ∧ i = .int .i64 k ∧ n = .int .i64 (vt s k : Int) ∧ vt s k < 1000000 ∧ Hid (∀ j, j < k → 48 ≤ bt s j ∧ bt s j ≤ 57)) (fun _ i => s.size - (intOf i).toNat)
  case atStart => exact ⟨0, Nat.zero_le _, rfl, by rw [vt_zero]; rfl, by rw [vt_zero]; omega, fun j hj => by omega⟩
  case round =>
    obtain ⟨k, hk, rfl, rfl, hv, HI⟩ := hrel
    by_cases hlt : k < s.size
    · have b1 := bt_bd s k
      by_cases h48 : bt s k < 48
      · have HX := Lib.hid (rdS_not (lim := 1000000) hlt (.inl h48))
        go_wp2_with fail; go_ret; exact ⟨jze HX.out.symm, rfl⟩
      · by_cases h57 : 57 < bt s k
        · have HX := Lib.hid (rdS_not (lim := 1000000) hlt (.inr h57))
          go_wp2_with fail; go_ret; exact ⟨jze HX.out.symm, rfl⟩
        · have HY : Hid (∀ j, j < k + 1 → 48 ≤ bt s j ∧ bt s j ≤ 57) := fun j hj => by
            by_cases e : j = k
            · subst e; omega
            · exact HI.out j (by omega)
          have hvs := vt_succ hlt (by omega); have hbig := rdS_big (lim := 1000000) (s := s) (k := k + 1) (by omega)
          have t1 : IntKind.u8.wrap (bt s k - 48) = bt s k - 48 := by rw [IntKind.wrap_u8]; omega
          by_cases hm : vt s (k + 1) < 1000000
          · have HM := Lib.hid hm
            have hm2 : (vt s k : Int) * 10 + (bt s k - 48) < 1000000 := by omega
            have HV := Lib.hid hvs; clear hvs hbig hm; generalize vt s k = x at *; go_wp2_with fail
            go_round
            case rel => exact ⟨k + 1, by omega, by go_num, by rw [HV.out]; congr 1; omega, HM.out, HY⟩
            case measure => simp [intOf]; omega
          · have HX := Lib.hid (hbig (by omega))
            have hm2 : ¬ (vt s k : Int) * 10 + (bt s k - 48) < 1000000 := by omega
            clear hvs hbig hm; generalize vt s k = x at *; go_wp2_with fail; go_ret; exact ⟨jze HX.out.symm, rfl⟩
    · have e : k = s.size := by omega
      by_cases h0 : s.size = 0
      · have HX := Lib.hid (rdS_empty 1000000 h0)
        have he : s.toList.isEmpty = true := by rw [ByteArray.toList_eq, List.isEmpty_iff]; exact List.length_eq_zero_iff.1 (by rw [jx9]; exact h0)
        go_wp2_with fail; go_ret; exact ⟨jze HX.out.symm, rfl⟩
      · have he : s.toList.isEmpty = false := by
          rw [ByteArray.toList_eq, List.isEmpty_eq_false_iff]; exact ne_nil (by omega)
        have ht := rdS_text (lim := 1000000) (s := s) (by omega) (fun j hj => HI.out j (by omega)) (by rw [← e]; exact hv); rw [← e] at ht
        have hk0 : ¬ k = 0 := by omega
        generalize vt s k = x at *; go_wp2_with fail; refine (snum x x _ _ rfl (Nat.le_refl _) (by omega)).mono ?_; rintro e w' ⟨rfl, rfl⟩
        cases hq : (s.toList == (txt (decL x)).toList) with
        | true =>
          rw [hq] at ht; have HX := Lib.hid ht; clear ht; go_wp2_with fail; go_ret; exact ⟨jze HX.out.symm, rfl⟩
        | false =>
          rw [hq] at ht; have HX := Lib.hid ht; clear ht; go_wp2_with fail; go_ret; exact ⟨jze HX.out.symm, rfl⟩
theorem idecI (n : Int) (w : World) (h0 : 0 ≤ n) (h : n ≤ 1000000000000000) :
  Calls Try.prog 72 #[.int .i64 n] w fun e w' => e = .returned (.string (txt (decL n.toNat))) ∧ w = w' := by
 obtain ⟨m, rfl⟩ := Int.eq_ofNat_of_zero_le h0; exact idec m w (by omega)
theorem snumI (n : Int) (w : World) (h0 : 0 ≤ n) (h : n ≤ 1000000000000000) :
  Calls Try.prog 143 #[.int .i64 n] w fun e w' => e = .returned (.string (txt (decL n.toNat))) ∧ w = w' :=
 snum n.toNat n.toNat n w (by omega) (Nat.le_refl _) (by omega)
theorem add_slash (a : List UInt8) (w : World) (h : a.length ≤ 1000) : (Op.stringOp .add (txt a) ({ data := #[47] } : ByteArray)).run Try.prog w = .ok (.string (txt (a ++ [47]))) w := jz2 a [47] w (by simp; omega)
def fmF (n d : Int) : ByteArray := if Wsh.vfB n d then frT n d else { data := #[] }
theorem fm_yes {n d : Int} (h : Wsh.vfB n d = true) : fmF n d = frT n d := by unfold fmF; rw [h]; rfl
theorem fm_no {n d : Int} (h : Wsh.vfB n d = false) : fmF n d = { data := #[] } := by unfold fmF; rw [h]; rfl
theorem iFmt (n d : Int) (w : World) :
    Calls Try.prog 73 #[.agg #[.int .i64 n, .int .i64 d]] w fun e w' => e = .returned (.string (fmF n d)) ∧ Below w.heap.size w w' := by
  cases hv : Wsh.vfB n d with
  | false =>
    have HX := Lib.hid (fm_no hv); go_enter Try.func73, Try.ntmps73; go_wp2_with fail; refine (iValid n d _).mono ?_; rintro e w1 ⟨rfl, hB⟩; have hB1 : Below w.heap.size w w1 := jq2 (by go_grown) hB; rw [hv]; go_wp2_with fail; go_ret; exact ⟨jz1 HX.out.symm, hB1⟩
  | true =>
    have HX := Lib.hid (fm_yes hv); obtain ⟨k1, k2, k3, k4, k5⟩ := (Wsh.vfB_iff _ _).1 hv; clear k5; have l1 := dec_len19 (m := n.toNat) (by omega); have l2 := dec_len19 (m := d.toNat) (by omega)
    have a1 := fun w => add_slash (decL n.toNat) w (by omega)
    have a2 := fun w => jz2 (decL n.toNat ++ [47]) (decL d.toNat) w (by simp; omega)
    go_enter Try.func73, Try.ntmps73; go_wp2_with fail; refine (iValid n d _).mono ?_; rintro e w1 ⟨rfl, hB⟩; obtain ⟨hc, hf⟩ := bcell hB; have c0 := hc w.heap.size 0 (by simp); have c1 := hc w.heap.size 1 (by simp)
    simp [go_sem] at c0 c1
    have hB1 : Below w.heap.size w w1 := jq2 (by go_grown) hB; clear hc hf hB; have KN := Lib.hid (fun j : Nat => Calls.quiet_of_same (w := w1) (n := j) ((idecI n _ (by omega) (by omega)).mono (fun _ _ h => ⟨h.1, h.2.symm⟩))); have KD := Lib.hid (fun j : Nat => Calls.quiet_of_same (w := w1) (n := j) ((idecI d _ (by omega) (by omega)).mono (fun _ _ h => ⟨h.1, h.2.symm⟩))); rw [hv]; go_wp2_with fail
    go_quiet (first | (go_at_call_of 72 (Value.int .i64 n); exact KN.out _) | (go_at_call_of 72 (Value.int .i64 d); exact KD.out _))
    go_wp2
    go_ret; exact ⟨jz1 (by rw [HX.out]; rfl), jqc hB1 _⟩
theorem sshow (n d : Int) (w : World) (h : 0 ≤ n ∧ n ≤ 1000000000000000) (h2 : 0 ≤ d ∧ d ≤ 1000000000000000) :
  Calls Try.prog 168 #[.agg #[.int .i64 n, .int .i64 d]] w fun e w' => e = .returned (.string (frT n d)) ∧ Below w.heap.size w w' := by
 have l1 := dec_len19 (m := n.toNat) (by omega); have l2 := dec_len19 (m := d.toNat) (by omega)
 have a1 := fun w => add_slash (decL n.toNat) w (by omega)
 have a2 := fun w => jz2 (decL n.toNat ++ [47]) (decL d.toNat) w (by simp; omega)
 go_enter Try.func168, Try.ntmps168; have KN := Lib.hid (fun j : Nat => Calls.quiet_of_same (w := (w.alloc (.cells #[.int .i64 n, .int .i64 d] 58))) (n := j) ((snumI n _ (by omega) (by omega)).mono (fun _ _ h => ⟨h.1, h.2.symm⟩))); have KD := Lib.hid (fun j : Nat => Calls.quiet_of_same (w := (w.alloc (.cells #[.int .i64 n, .int .i64 d] 58))) (n := j) ((snumI d _ (by omega) (by omega)).mono (fun _ _ h => ⟨h.1, h.2.symm⟩))); go_wp2_with fail
 go_quiet (first | (go_at_call_of 143 (Value.int .i64 n); exact KN.out _) | (go_at_call_of 143 (Value.int .i64 d); exact KD.out _))
 go_wp2
 go_ret; exact ⟨jz1 rfl, jqc (by go_grown) _⟩
theorem pok_no {s : ByteArray} (h : idxI 47 s = -1) : pok s = false := by unfold pok; rw [h]; rfl
theorem pok_at {s : ByteArray} {k : Nat} (h : idxI 47 s = k) : pok s = Wsh.vfB (rdS 1000000 (s.extract 0 k)) (rdS 1000000 (s.extract (k + 1) s.size)) ∧ pnum s = rdS 1000000 (s.extract 0 k) ∧ pden s = rdS 1000000 (s.extract (k + 1) s.size) := by
 unfold pok pnum pden; rw [h, decide_eq_true (by omega), Bool.true_and]; exact ⟨rfl, rfl, rfl⟩
theorem frV_no' {b : Bool} {x y : Int} (h : b = false) : Ending.returned (.tuple #[.agg #[.int .i64 0, .int .i64 0], .bool false]) = .returned (frV b x y) := by rw [h]; rfl
theorem frV_yes' {b : Bool} {x y u v : Int} (h : b = true) (hx : u = x) (hy : v = y) : Ending.returned (.tuple #[.agg #[.int .i64 u, .int .i64 v], .bool true]) = .returned (frV b x y) := by rw [h, hx, hy]; rfl
theorem ext_size (s : ByteArray) (a b : Nat) : (s.extract a b).size ≤ s.size := by
 rw [← jx9, ext_data, ← jx9, List.length_take, List.length_drop]; omega
theorem c2_drew {w : World} {g : Nat} {x y : Value} (h : Cell2 w g x y) : Cell2 w.drew g x y := h
theorem iPar (s : ByteArray) (w : World) (h : s.size ≤ 4294967296) :
    Calls Try.prog 126 #[.string s] w fun e w' => e = .returned (frV (pok s) (pnum s) (pden s)) ∧ Below w.heap.size w w' := by
  rcases idx_or 47 s with ⟨k, hk, _, _, hi⟩ | ⟨_, hi⟩
  · obtain ⟨e1, e2, e3⟩ := pok_at hi
    obtain ⟨l1, l2⟩ := vf_lim (s.extract 0 k) (s.extract (k + 1) s.size); have z1 := ext_size s 0 k; have z2 := ext_size s (k + 1) s.size; rw [e1, e2, e3]; have HI := Lib.hid hi; have HL := Lib.hid l2; have HL1 := Lib.hid l1; clear e1 e2 e3 hi l1 l2; go_enter Try.func126, Try.ntmps126; go_wp2_with fail; refine (iidx s 47 _ h).mono ?_; rintro e w' ⟨rfl, rfl⟩; rw [HI.out]; go_wp2_with fail
    have q1 : (0 : Int) ≤ (k : Int) := by omega
    have q2 : (k : Int) ≤ (s.size : Int) := by omega
    have q3 : (0 : Int) ≤ (k : Int) + 1 := by omega
    have q4 : (k : Int) + 1 ≤ (s.size : Int) := by omega
    have t1 : IntKind.i64.wrap ((k : Int) + 1) = (k : Int) + 1 := by rw [IntKind.wrap_i64]; omega
    have t2 : ((k : Int) + 1).toNat = k + 1 := by omega
    generalize hA : s.extract 0 k = A at *; generalize hD : s.extract (k + 1) s.size = D at *
    have za : A.size ≤ 4294967296 := by omega
    have zd : D.size ≤ 4294967296 := by omega
    go_region_held3 (fun _ => True) (exact trivial) (first | (go_at_call_of 127 (Value.string A); refine (iread A _ za).mono ?_; rintro e w' ⟨rfl, rfl⟩) | (go_at_call_of 127 (Value.string D); refine (iread D _ zd).mono ?_; rintro e w' ⟨rfl, rfl⟩))
    all_goals (
      go_wp2_with fail; refine (iValid (rdS 10000000 A) (rdS 10000000 D) _).mono ?_; rintro e w1 ⟨rfl, hb⟩; obtain ⟨c0, c1, f0, f1, hz⟩ := c2_below (c2_drew (c2_new (w.alloc (.cells #[.int .i64 0, .int .i64 0] 58)) (.int .i64 (rdS 10000000 A)) (.int .i64 (rdS 10000000 D)) _)) hb; have hB1 : Below w.heap.size w w1 := jq2 (by go_grown) hb; simp only [World.size_alloc] at c0 c1 f0 f1 hz; obtain ⟨d0, d1, g0, g1, hy⟩ := c2_below (c2_drew (c2_alloc (c2_new w (.int .i64 0) (.int .i64 0) 58) (.cells #[.int .i64 (rdS 10000000 A), .int .i64 (rdS 10000000 D)] 58))) hb; clear hb; rw [HL1.out]
      cases hv : Wsh.vfB (rdS 1000000 A) (rdS 1000000 D) with
      | false =>
        go_wp2_with fail; refine bodyPost_ret (v := .tuple #[.agg #[.int .i64 0, .int .i64 0], .bool false]) (by simp [results, Try.results126, go_sem, d0, d1]) rfl ⟨frV_no' (by rw [hA, hD]; exact hv), by go_grown⟩
      | true =>
        have HE := Lib.hid (HL.out hv); go_wp2_with fail
        refine bodyPost_ret (v := .tuple #[.agg #[.int .i64 (rdS 10000000 A), .int .i64 (rdS 10000000 D)], .bool true]) (by simp [results, Try.results126, go_sem, d0, d1]) rfl ⟨frV_yes' (by rw [hA, hD]; exact hv) (by rw [hA]; exact HE.out.1) (by rw [hD]; exact HE.out.2), by go_grown⟩)
  · have HX := Lib.hid (pok_no hi)
    have HI := Lib.hid hi; clear hi; go_enter Try.func126, Try.ntmps126; go_wp2_with fail; refine (iidx s 47 _ h).mono ?_; rintro e w' ⟨rfl, rfl⟩; rw [HI.out]; go_wp2_with fail
    go_returns
    exact ⟨frV_no' HX.out, by go_grown⟩
theorem infoStr : (Try.prog.info? 9).map (fun i => (i.zero, i.size, i.bytes)) = some (some (.string { data := #[] }), 1, 16) := by kernel_rfl
def Splat (w : World) (c : Int) (s : ByteArray) (e : Ending) (w' : World) : Prop := ∃ v, e = .returned v ∧ w'.ownsRow w.heap.size 9 1 v (cutS c s).length ((cutS c s).map Value.string) ∧ Below w.heap.size w w'
theorem ssplit (s : ByteArray) (c : Int) (w : World) (h : s.size ≤ 4294967296) :
  Calls Try.prog 150 #[.string s, .int .u8 c] w (Splat w c s) := by
 have hb := get_bt s; obtain ⟨i0, hi, hz0, hz1, hz2⟩ := info_parts infoStr; go_enter Try.func150, Try.ntmps150; go_wp2_with fail
 go_loopw [5, 6, 7] (fun v f i wr => ∃ k : Nat, k ≤ s.size ∧ i = .int .i64 k ∧ f = .int .i64 ((jj0 c s k).2 : Int) ∧ wr.ownsRow w.heap.size 9 1 v (jj0 c s k).1.length ((jj0 c s k).1.map Value.string) ∧ Below w.heap.size w wr) (fun _ _ i _ => s.size - (intOf i).toNat)
 case atStart => exact ⟨0, Nat.zero_le _, rfl, rfl, ⟨by simp [jj0], .inr ⟨w.heap.size, 0, #[], rfl, Nat.le_refl _, Go.Deep.blk_alloc_new _ _, Nat.le_refl _, by unfold maxLen; omega, rfl, rfl⟩⟩, by go_grown⟩
 case round =>
  obtain ⟨k, hk, rfl, rfl, hown, hB⟩ := hrel; have hsz := hB.size; obtain ⟨y1, y2⟩ := cutTo_bd c s k
  by_cases hlt : k < s.size
  ·by_cases hc : bt s k = c
   ·have HC := Lib.hid (cutTo_hit hc)
    have ec : (bt s k == c) = true := by rw [beq_iff_eq]; exact hc
    clear hc; generalize jj0 c s k = p at *; obtain ⟨L, f⟩ := p; simp only at y1 y2 hown HC; generalize hn : L.length = n at *
    go_wp2_with (first | (at_builtin; refine wpList_append_own _ rfl _ _ 123 rfl w.heap.size 9 i0 (.string { data := #[] }) 1 16 Try.underlying123 hi hz0 hz1 hz2 rfl (by decide) _ _ _ rfl (hown.alloc _) ⟨wr.heap.size, 0, none⟩ 1 1 [.string (s.extract f k)] rfl rfl (cell_one_new _ _ _) (fun x hx => by simp at hx; subst hx; rfl) (by unfold maxLen; omega) (by omega) (by simp; omega) ?_; intro v' w3 hown' hgrow3 hnil3))
    have HR : Hid (w3.ownsRow w.heap.size 9 1 v' (n + 1) ((L ++ [s.extract f k]).map Value.string) ∧ Below w.heap.size w w3) := ⟨by rw [List.map_append]; exact hown', (hB.alloc hsz _).grown hgrow3 (by simp; omega) (fun q hq => (hown.lt q hq).1)⟩
    clear hown hown' hgrow3 hnil3 hB
    go_roundw
    case rel =>
     refine ⟨k + 1, by omega, by go_num, by rw [HC.out]; go_num, ?_, HR.out.2⟩; rw [HC.out]
     show w3.ownsRow _ _ 1 v' (L ++ [s.extract f k]).length _
     rw [List.length_append, hn]; exact HR.out.1
    case measure => simp [intOf]; omega
   ·have HC := Lib.hid (cutTo_miss hc)
    have ec : (bt s k == c) = false := by rw [beq_eq_false_iff_ne]; exact hc
    clear hc; go_wp2_with fail
    go_roundw
    case rel => exact ⟨k + 1, by omega, by go_num, by rw [HC.out], by rw [HC.out]; exact hown, hB⟩
    case measure => simp [intOf]; omega
  ·have e : k = s.size := by omega
   subst e; have HF : Hid (cutS c s = (jj0 c s s.size).1 ++ [s.extract (jj0 c s s.size).2 s.size]) := Lib.hid rfl; generalize jj0 c s s.size = p at *; obtain ⟨L, f⟩ := p; simp only at y1 y2 hown HF; generalize hn : L.length = n at *
   go_wp2_with (first | (at_builtin; refine wpList_append_own _ rfl _ _ 123 rfl w.heap.size 9 i0 (.string { data := #[] }) 1 16 Try.underlying123 hi hz0 hz1 hz2 rfl (by decide) _ _ _ rfl (hown.alloc _) ⟨wr.heap.size, 0, none⟩ 1 1 [.string (s.extract f s.size)] rfl rfl (cell_one_new _ _ _) (fun x hx => by simp at hx; subst hx; rfl) (by unfold maxLen; omega) (by omega) (by simp; omega) ?_; intro v' w3 hown' hgrow3 hnil3))
   have HR : Hid (w3.ownsRow w.heap.size 9 1 v' (n + 1) ((L ++ [s.extract f s.size]).map Value.string) ∧ Below w.heap.size w w3) := ⟨by rw [List.map_append]; exact hown', (hB.alloc hsz _).grown hgrow3 (by simp; omega) (fun q hq => (hown.lt q hq).1)⟩
   clear hown hown' hgrow3 hnil3 hB; go_ret; refine ⟨v', rfl, ?_, HR.out.2⟩; rw [HF.out, List.length_append, hn]; exact HR.out.1
def TwoS (p q : Addr) (x y : Value) (w' : World) : Prop := w'.cell? p = some x ∧ w'.cell? q = some y
theorem twoS_below {p q : Addr} {x y : Value} {W W' : World} (h : TwoS p q x y W) (hb : Below W.heap.size W W') : TwoS p q x y W' :=
 ⟨(hb.cell (World.block_lt_of_cell? W _ h.1)).trans h.1, (hb.cell (World.block_lt_of_cell? W _ h.2)).trans h.2⟩
theorem twoS_alloc {p q : Addr} {x y : Value} {W : World} (o : Obj) (h : TwoS p q x y W) : TwoS p q x y (W.alloc o) := twoS_below h ((Below.refl _ _).alloc (Nat.le_refl _) _)
theorem twoS_drew {p q : Addr} {x y : Value} {W : World} (h : TwoS p q x y W) : TwoS p q x y W.drew := h
theorem pok_two {s : ByteArray} {k j : Nat} (hi : idxI 47 s = k) (hj : k < j) (hjs : j < s.size) (h : bt s j = 47) : pok s = false := by
 obtain ⟨e1, _, _⟩ := pok_at hi; rw [e1]
 have : rdS 1000000 (s.extract (k + 1) s.size) = -1 := by
  refine rdS_not (k := j - (k + 1)) ?_ (.inl ?_)
  ·rw [← jx9, ext_data, List.length_take, List.length_drop, jx9]; omega
  ·rw [bt_ext s _ _ _ (by omega), show k + 1 + (j - (k + 1)) = j by omega, h]; omega
 rw [this]; exact vf_no (by omega)
theorem later_or (c : Int) (s : ByteArray) (k : Nat) : (∃ j, k < j ∧ j < s.size ∧ bt s j = c) ∨ ∀ j, k < j → j < s.size → bt s j ≠ c := by
 by_cases h : ∃ j, k < j ∧ j < s.size ∧ bt s j = c
 ·exact .inl h
 ·exact .inr fun j h1 h2 h3 => h ⟨j, h1, h2, h3⟩
theorem sPar_no (s : ByteArray) (w : World) (h : s.size ≤ 4294967296) (hp : pok s = false) (hl : (cutS 47 s).length ≠ 2) :
  Calls Try.prog 183 #[.string s] w fun e w' => e = .returned (frV (pok s) (pnum s) (pden s)) ∧ Below w.heap.size w w' := by
 have HP := Lib.hid hp
 have hl1 : ((cutS 47 s).length : Int) ≠ 2 := by omega
 have hl2 : (((cutS 47 s).length : Int) == 2) = false := by rw [beq_eq_false_iff_ne]; exact hl1
 have hl0 : 0 < (cutS 47 s).length := by unfold cutS; simp
 clear hl1; go_enter Try.func183, Try.ntmps183; go_wp2_with fail; refine (ssplit s 47 _ h).mono ?_; rintro e w1 ⟨v, rfl, hO, hB⟩; obtain ⟨g, cp, rfl, lg, ltg⟩ := hO.form hl0; clear hO; have hB1 : Below w.heap.size w w1 := jq2 (by go_grown) hB; obtain ⟨d0, d1, g0, g1, hy⟩ := c2_below (c2_new w (.int .i64 0) (.int .i64 0) 58) hB; clear hB; generalize (cutS 47 s).length = n at *; go_wp2_with fail; refine bodyPost_ret (v := .tuple #[.agg #[.int .i64 0, .int .i64 0], .bool false]) (by simp [results, Try.results183, go_sem, d0, d1]) rfl ⟨frV_no' HP.out, by go_grown⟩
theorem sPar_two (s : ByteArray) (w : World) (h : s.size ≤ 4294967296) (A D : ByteArray) (hc : cutS 47 s = [A, D]) (hpk : pok s = Wsh.vfB (rdS 1000000 A) (rdS 1000000 D)) (hpn : pnum s = rdS 1000000 A) (hpd : pden s = rdS 1000000 D) (za : A.size ≤ 4294967296) (zd : D.size ≤ 4294967296) :
    Calls Try.prog 183 #[.string s] w fun e w' => e = .returned (frV (pok s) (pnum s) (pden s)) ∧ Below w.heap.size w w' := by
  rw [hpk, hpn, hpd]; have HC := Lib.hid hc; clear hpk hpn hpd hc; go_enter Try.func183, Try.ntmps183; go_wp2_with fail; refine (ssplit s 47 _ h).mono ?_; rintro e w1 ⟨v, rfl, hO, hB⟩; rw [HC.out] at hO; obtain ⟨g, cp, rfl, lg, ltg⟩ := hO.form (by simp)
  have hS0 : TwoS ⟨g, 0, none⟩ ⟨g, 1, none⟩ (.string A) (.string D) w1 := ⟨hO.cellAt 0 (by simp), hO.cellAt 1 (by simp)⟩
  clear hO; have hB1 : Below w.heap.size w w1 := jq2 (by go_grown) hB; have k1 := c2_below (c2_new w (.int .i64 0) (.int .i64 0) 58) hB; clear hB; simp only [List.length_cons, List.length_nil]; have hSz := k1.2.2.2.2; unfold TwoS at hS0; go_wp2_with fail
  go_region_held3 (fun w' => w'.cell? ⟨g, 0, none⟩ = some (.string A) ∧ w'.cell? ⟨g, 1, none⟩ = some (.string D)) (first | exact hS0 | exact twoS_drew hS0 | assumption | exact twoS_alloc _ (by assumption) | exact twoS_drew (twoS_alloc _ hS0) | exact twoS_drew (by assumption)) (first | (go_at_call_of 184 (Value.string A); refine (sread A _ za).mono ?_; rintro e w' ⟨rfl, rfl⟩) | (go_at_call_of 184 (Value.string D); refine (sread D _ zd).mono ?_; rintro e w' ⟨rfl, rfl⟩))
  all_goals (
    go_wp2_with fail; refine (svalid (rdS 1000000 A) (rdS 1000000 D) _).mono ?_; rintro e w2 ⟨rfl, hb⟩; obtain ⟨c0, c1, f0, f1, hz⟩ := c2_below (c2_drew (c2_new w1 (.int .i64 (rdS 1000000 A)) (.int .i64 (rdS 1000000 D)) _)) hb; obtain ⟨d0, d1, g0, g1, hy⟩ := c2_below (c2_drew (c2_alloc k1 (.cells #[.int .i64 (rdS 1000000 A), .int .i64 (rdS 1000000 D)] 58))) hb; have hB2 : Below w.heap.size w w2 := jq2 (by go_grown) hb; clear hb
    cases hv : Wsh.vfB (rdS 1000000 A) (rdS 1000000 D) with
    | false =>
      go_wp2_with fail; refine bodyPost_ret (v := .tuple #[.agg #[.int .i64 0, .int .i64 0], .bool false]) (by simp [results, Try.results183, go_sem, d0, d1]) rfl ⟨frV_no' hv, by go_grown⟩
    | true =>
      go_wp2_with fail
      refine bodyPost_ret (v := .tuple #[.agg #[.int .i64 (rdS 1000000 A), .int .i64 (rdS 1000000 D)], .bool true]) (by simp [results, Try.results183, go_sem, d0, d1]) rfl ⟨frV_yes' hv rfl rfl, by go_grown⟩)
theorem sparse (s : ByteArray) (w : World) (h : s.size ≤ 4294967296) :
  Calls Try.prog 183 #[.string s] w fun e w' => e = .returned (frV (pok s) (pnum s) (pden s)) ∧ Below w.heap.size w w' := by
 rcases idx_or 47 s with ⟨k, hk, hb, hbn, hi⟩ | ⟨hbn, hi⟩
 ·rcases later_or 47 s k with ⟨j, hj, hjs, hjb⟩ | hno
  ·refine sPar_no s w h (pok_two hi hj hjs hjb) ?_
   have := cut_more hb hbn hj hjs hjb
   exact fun e => by rw [show ((47 : Nat) : Int) = 47 from rfl] at this; omega
  ·obtain ⟨e1, e2, e3⟩ := pok_at hi
   exact sPar_two s w h _ _ (cut_one hk hb hbn hno) e1 e2 e3 (Nat.le_trans (ext_size _ _ _) h) (Nat.le_trans (ext_size _ _ _) h)
 ·refine sPar_no s w h (pok_no hi) ?_
  have := cut_none (c := 47) (s := s) hbn; rw [this]; simp

def Ofd (w : World) (b : Nat) (P : Int) (e : Ending) (w' : World) : Prop := ∃ t : ByteArray, e = .returned (.string t) ∧ t.size ≤ 1 ∧ Rd w' b P ∧ w.grownBy w' (some b)
theorem of_any (b g n cap : Nat) (P : Int) (w : World) (h : Rd w b P) (hP : P ≤ 100000) (hgb : g ≠ b) (hgs : g < w.heap.size) (hn : 1 ≤ n) (hn' : n ≤ 1000)
  (hc : ∀ i, i < n → ∃ t : ByteArray, w.cell? ⟨g, i, none⟩ = some (.string t) ∧ t.size ≤ 1) :
  Calls Try.prog 148 #[.pointer (some ⟨b, 0, none⟩), .slice (some ⟨g, 0, none⟩) n cap] w (Ofd w b (P + 1)) := by
 go_enter Try.func148, Try.ntmps148; go_wp2_with fail; refine (jx2 b P n _ h hP).mono ?_; rintro e w' ⟨v, rfl, hv, hR, hG⟩
 have hvn : v < n := by omega
 have hvi : (v : Int) < (n : Int) := by omega
 obtain ⟨t, hz, z0⟩ := hc v hvn; have hz' := (g_cell (o := v) hG hgs hgb).trans hz; clear hz hc hv
 go_wp2
 go_ret; exact ⟨t, rfl, z0, hR, hG⟩
theorem lit_strs (w : World) (ts : List ByteArray) (t : TypeId) (hz : ∀ z ∈ ts, z.size ≤ 1) :
  ∀ i, i < ts.length → ∃ z : ByteArray, (w.alloc (.cells (ts.map Value.string).toArray t)).cell? ⟨w.heap.size, i, none⟩ = some (.string z) ∧ z.size ≤ 1 := by
 intro i hi'; refine ⟨ts[i], ?_, hz _ (List.getElem_mem hi')⟩
 simp [World.cell?_alloc_new, hi']
theorem of_lit (b n : Nat) (P : Int) (ts : List ByteArray) (t : TypeId) (w : World) (h : Rd w b P) (hP : P ≤ 100000) (hb : b < w.heap.size) (hl : ts.length = n) (hn : 1 ≤ n) (hn' : n ≤ 1000) (hz : ∀ z ∈ ts, z.size ≤ 1) :
  Calls Try.prog 148 #[.pointer (some ⟨b, 0, none⟩), .slice (some ⟨w.heap.size, 0, none⟩) n n] (w.alloc (.cells (ts.map Value.string).toArray t)) (Ofd w b (P + 1)) := by
 refine (of_any b w.heap.size n n P _ (rd_alloc h hb _) hP (by omega) (by simp) hn hn' (by rw [← hl]; exact lit_strs w ts t hz)).mono ?_; rintro e w' ⟨v, rfl, v0, hR, hG⟩; exact ⟨v, rfl, v0, hR, g_new hG⟩
theorem add_any (a b : ByteArray) (w : World) (ha : a.size ≤ 100000) (hb : b.size ≤ 100000) : (Op.stringOp .add a b).run Try.prog w = .ok (.string (a ++ b)) w := run_string_add_sum w a b (by omega)
theorem app_size (a b : ByteArray) : (a ++ b).size = a.size + b.size := ByteArray.size_append
theorem ext_len (s : ByteArray) (a b : Nat) (h : a ≤ b) (hb : b ≤ s.size) : (s.extract a b).size = b - a := by
 rw [← jx9, ext_data, List.length_take, List.length_drop, jx9]; omega
def Mutd (w : World) (b : Nat) (P : Int) (m : Nat) (e : Ending) (w' : World) : Prop := ∃ t : ByteArray, e = .returned (.string t) ∧ t.size ≤ m ∧ Rd w' b P ∧ w.grownBy w' (some b)
theorem smutate (b : Nat) (P : Int) (s : ByteArray) (w : World) (h : Rd w b P) (hP : P ≤ 80000) (hb : b < w.heap.size) (hs : s.size ≤ 50000) :
  Calls Try.prog 95 #[.pointer (some ⟨b, 0, none⟩), .string s] w (Mutd w b (P + 3) (s.size + 1)) := by
 go_enter Try.func95, Try.ntmps95; go_wp2_with fail; refine (jx2 b P ((s.size : Int) + 1) _ h (by omega)).mono ?_; rintro e w1 ⟨k, rfl, hk, hR1, hG1⟩; have hb1 := Nat.lt_of_lt_of_le hb hG1.size
 have hkn : k ≤ s.size := by omega
 clear hk h; go_wp2_with fail; refine (jx2 b _ 5 _ hR1 (by omega)).mono ?_; rintro e w2 ⟨v, rfl, hv, hR2, hG2⟩; have hb2 := Nat.lt_of_lt_of_le hb1 hG2.size; have G2 := jqe hG1 hG2; clear hG1 hG2 hR1
 have hv5 : (v : Int) < 5 := by omega
 clear hv
 by_cases v3 : v = 3
 ·have e0 : ((v : Int) == 0) = false := by simp [v3]
  have e1 : ((v : Int) == 1) = false := by simp [v3]
  have e2 : ((v : Int) == 2) = false := by simp [v3]
  have e3 : ((v : Int) == 3) = true := by simp [v3]
  clear v3 hv5; go_wp2_with fail; refine (of_lit b 4 _ [{ data := #[48] }, { data := #[32] }, { data := #[10] }, { data := #[120] }] _ w2 hR2 (by omega) hb2 rfl (by omega) (by omega) (fun z hz => by simp at hz; rcases hz with rfl | rfl | rfl | rfl <;> decide)).mono ?_; rintro e w3 ⟨t, rfl, t1, hR3, hG3⟩; have G3 := jqe G2 hG3; have hadd := add_any s t w3 (by omega) (by omega); have HX := Lib.hid (app_size s t); generalize s ++ t = x at *; clear hG3 G2; go_wp2_with fail; go_ret; exact ⟨x, rfl, by have := HX.out; omega, jxa hR3 (by omega), G3⟩
 ·by_cases v2 : v = 2
  ·have e0 : ((v : Int) == 0) = false := by simp [v2]
   have e1 : ((v : Int) == 1) = false := by simp [v2]
   have e2 : ((v : Int) == 2) = true := by simp [v2]
   clear v2 v3 hv5; have hx := ext_size s 0 k; go_wp2_with fail; go_ret; exact ⟨_, rfl, by omega, jxa hR2 (by omega), G2⟩
  ·by_cases v4 : v = 4
   ·have e0 : ((v : Int) == 0) = false := by simp [v4]
    have e1 : ((v : Int) == 1) = false := by simp [v4]
    have e2 : ((v : Int) == 2) = false := by simp [v4]
    have e3 : ((v : Int) == 3) = false := by simp [v4]
    clear v2 v3 v4 hv5; go_wp2_with fail; go_ret; exact ⟨s, rfl, by omega, jxa hR2 (by omega), G2⟩
   ·have hv1 : v = 0 ∨ v = 1 := by omega
    have e01 : (((v : Int) == 0) || ((v : Int) == 1)) = true := by rcases hv1 with h | h <;> subst h <;> rfl
    clear v2 v3 v4 hv5
    by_cases hlt : k < s.size
    ·have hx1 := ext_len s 0 k (by omega) (by omega)
     have hx2 := ext_len s (k + 1) s.size (by omega) (by omega)
     have t1 : ((k : Int) + 1).toNat = k + 1 := by omega
     generalize hA : s.extract 0 k = A at *; generalize hD : s.extract (k + 1) s.size = D at *
     rcases hv1 with rfl | rfl
     ·have q0 : (0 : Int) ≤ (k : Int) := by omega
      have q1 : (k : Int) ≤ (s.size : Int) := by omega
      have q2 : (0 : Int) ≤ (k : Int) + 1 := by omega
      have q3 : (k : Int) + 1 ≤ (s.size : Int) := by omega
      have q4 : IntKind.i64.wrap ((k : Int) + 1) = (k : Int) + 1 := by rw [IntKind.wrap_i64]; omega
      have HL : Hid (∀ z ∈ ([{ data := #[48] }, { data := #[49] }, { data := #[32] }, { data := #[47] }, { data := #[104] }, { data := #[10] }, { data := #[50] }] : List ByteArray), z.size ≤ 1) := fun z hz => by simp at hz; rcases hz with rfl | rfl | rfl | rfl | rfl | rfl | rfl <;> decide
      go_wp2_with fail
      go_region_held3 (fun _ => True) (exact trivial) (first | (go_at_call 148; refine (of_lit b 7 _ [{ data := #[48] }, { data := #[49] }, { data := #[32] }, { data := #[47] }, { data := #[104] }, { data := #[10] }, { data := #[50] }] _ w2.drew hR2 (by omega) hb2 rfl (by omega) (by omega) HL.out).mono ?_; rintro e w3 ⟨t, rfl, t1, hR3, hG3⟩; have ha1 := fun w => add_any A t w (by omega) (by omega); have ha2 := fun w => add_any (A ++ t) D w (by rw [app_size]; omega) (by omega)))
      all_goals (
       have G3 : w.grownBy w3 (some b) := jqe G2 ⟨hG3.os, hG3.tape, hG3.output, hG3.size, hG3.block⟩; have HX := Lib.hid (app_size (A ++ t) D); have HY := Lib.hid (app_size A t); go_wp2_with fail; go_ret
       exact ⟨_, rfl, by have := HX.out; have := HY.out; omega, jxa hR3 (by omega), G3⟩)
     ·have q0 : (0 : Int) ≤ (k : Int) := by omega
      have q1 : (k : Int) ≤ (s.size : Int) := by omega
      have q2 : (0 : Int) ≤ (k : Int) + 1 := by omega
      have q3 : (k : Int) + 1 ≤ (s.size : Int) := by omega
      have q4 : IntKind.i64.wrap ((k : Int) + 1) = (k : Int) + 1 := by rw [IntKind.wrap_i64]; omega
      have HL : Hid (∀ z ∈ ([{ data := #[48] }, { data := #[49] }, { data := #[32] }, { data := #[47] }, { data := #[104] }, { data := #[10] }, { data := #[50] }] : List ByteArray), z.size ≤ 1) := fun z hz => by simp at hz; rcases hz with rfl | rfl | rfl | rfl | rfl | rfl | rfl <;> decide
      go_wp2_with fail
      go_region_held3 (fun _ => True) (exact trivial) (first | (go_at_call 148; refine (of_lit b 7 _ [{ data := #[48] }, { data := #[49] }, { data := #[32] }, { data := #[47] }, { data := #[104] }, { data := #[10] }, { data := #[50] }] _ w2.drew hR2 (by omega) hb2 rfl (by omega) (by omega) HL.out).mono ?_; rintro e w3 ⟨t, rfl, t1, hR3, hG3⟩; have ha1 := fun w => add_any A t w (by omega) (by omega); have ha2 := fun w => add_any (A ++ t) D w (by rw [app_size]; omega) (by omega)))
      all_goals (
       have G3 : w.grownBy w3 (some b) := jqe G2 ⟨hG3.os, hG3.tape, hG3.output, hG3.size, hG3.block⟩; have HX := Lib.hid (app_size (A ++ t) D); have HY := Lib.hid (app_size A t); go_wp2_with fail; go_ret
       exact ⟨_, rfl, by have := HX.out; have := HY.out; omega, jxa hR3 (by omega), G3⟩)
    ·rcases hv1 with rfl | rfl
     ·go_wp2_with fail
      go_ret; exact ⟨s, rfl, by omega, jxa hR2 (by omega), G2⟩
     ·go_wp2_with fail
      go_ret; exact ⟨s, rfl, by omega, jxa hR2 (by omega), G2⟩
theorem join_two (c : UInt8) (a b : List UInt8) : joinL c [a, b] = a ++ c :: b := by rw [jx8 c a (by simp)]; rfl
theorem join_three (c : UInt8) (a b d : List UInt8) : joinL c [a, b, d] = a ++ c :: (b ++ c :: d) := by rw [jx8 c a (by simp), join_two]
theorem join_four (c : UInt8) (a b d e : List UInt8) : joinL c [a, b, d, e] = a ++ c :: (b ++ c :: (d ++ c :: e)) := by rw [jx8 c a (by simp), join_three]
def spT (n : Int) : List UInt8 := 32 :: nT n
def hrT (o : Int) (zs : List Int) (k : Nat) : List UInt8 := kInh ++ spT o ++ (zs.take k).flatMap spT
def hrV (o : Int) (zs : List Int) : List UInt8 := if zs.all ownB = true then hrT o zs zs.length else []
theorem hr_zero (o : Int) (zs : List Int) : hrT o zs 0 = kInh ++ spT o := by unfold hrT; simp
theorem hr_next {o : Int} {zs : List Int} {k : Nat} (h : k < zs.length) : hrT o zs (k + 1) = hrT o zs k ++ spT (zs.getD k 0) := by
 unfold hrT; rw [List.take_add_one, List.flatMap_append, List.getD_eq_getElem?_getD, List.getElem?_eq_getElem h]
 simp
theorem join_map (x : List UInt8) (zs : List Int) : joinL 32 (x :: zs.map nT) = x ++ zs.flatMap spT := by
  induction zs generalizing x with
  | nil => simp [joinL]
  | cons z t ih =>
    rw [List.map_cons, jx8 32 x (by simp), ih]
    simp [spT]
theorem hr_all (o : Int) (zs : List Int) : hrT o zs zs.length = joinL 32 (kInh :: nT o :: zs.map nT) := by
 rw [jx8 32 kInh (by simp), join_map]; unfold hrT spT
 simp
theorem nT_len {n : Int} (h0 : 0 ≤ n) (h : n ≤ 1000000) : (nT n).length ≤ 16 := dec_len 15 _ (by omega)
theorem spT_len {n : Int} (h0 : 0 ≤ n) (h : n ≤ 1000000) : (spT n).length ≤ 17 := by have := nT_len h0 h; unfold spT; simp; omega
theorem hr_len {o : Int} {zs : List Int} (ho : 0 ≤ o ∧ o ≤ 1000000) : ∀ k, (∀ j, j < k → j < zs.length → 0 ≤ zs.getD j 0 ∧ zs.getD j 0 ≤ 1000000) → (hrT o zs k).length ≤ 24 + 17 * k := by
  intro k
  induction k with
  | zero => intro _; rw [hr_zero]; have := spT_len ho.1 ho.2; simp [kInh]; omega
  | succ k ih =>
    intro h; have i := ih (fun j hj hl => h j (by omega) hl)
    by_cases hk : k < zs.length
    · rw [hr_next hk]
      have := h k (by omega) hk; have := spT_len this.1 this.2; rw [List.length_append]; omega
    · have e : hrT o zs (k + 1) = hrT o zs k := by
        unfold hrT; rw [List.take_of_length_le (by omega), List.take_of_length_le (by omega)]
      rw [e]; omega
def ddT (x : Dd) : List UInt8 := joinL 32 (deedW x)
theorem ev_out {e : Ev} (h : ¬ (smlB e.at_ = true ∧ smlB e.nu = true)) : fmE e = txt [] := by
 unfold fmE evT evW; rw [if_neg h]; rfl
theorem ev_deed {e : Ev} (h : smlB e.at_ = true ∧ smlB e.nu = true) (c : e.k = 0) : fmE e = txt (ddT e.dd) := by
 unfold fmE evT evW ddT; rw [if_pos h, if_pos c]
theorem ev_turns {e : Ev} (h : smlB e.at_ = true ∧ smlB e.nu = true) (c : e.k = 1) : fmE e = txt (jz0 ++ spT e.nu) := by
 unfold fmE evT evW; rw [if_pos h, c]; simp [join_two, spT]
theorem ev_swap {e : Ev} (h : smlB e.at_ = true ∧ smlB e.nu = true) (c : e.k = 2) : fmE e = txt (jz4 ++ spT e.at_ ++ spT e.nu) := by
 unfold fmE evT evW; rw [if_pos h, c]; simp [join_three, spT]
theorem ev_gate {e : Ev} (h : smlB e.at_ = true ∧ smlB e.nu = true) (c : e.k = 3) : fmE e = txt (jz5 ++ spT e.at_ ++ spT e.nu) := by
 unfold fmE evT evW; rw [if_pos h, c]; simp [join_three, spT]
theorem ev_dig {e : Ev} (h : smlB e.at_ = true ∧ smlB e.nu = true) (c : e.k = 4) : fmE e = txt (kDig ++ spT e.at_ ++ spT e.nu) := by
 unfold fmE evT evW; rw [if_pos h, c]; simp [join_three, spT]
theorem ev_hour {e : Ev} (h : smlB e.at_ = true ∧ smlB e.nu = true) (c : e.k = 5) : fmE e = txt (jzg ++ spT e.nu) := by
 unfold fmE evT evW; rw [if_pos h, c]; simp [join_two, spT]
theorem ev_none {e : Ev} (c0 : e.k ≠ 0) (c1 : e.k ≠ 1) (c2 : e.k ≠ 2) (c3 : e.k ≠ 3) (c4 : e.k ≠ 4) (c5 : e.k ≠ 5) : fmE e = txt [] := by
 unfold fmE evT evW; rw [if_neg c0, if_neg c1, if_neg c2, if_neg c3, if_neg c4, if_neg c5]
 split <;> rfl
theorem dd_out {x : Dd} (h : ¬ (ownB x.o = true ∧ x.zs.length ≤ 12)) : ddT x = [] := by
 unfold ddT deedW; rw [if_neg h]; rfl
theorem dd_inh {x : Dd} (h : ownB x.o = true ∧ x.zs.length ≤ 12) (c : x.k = 1) (z : x.zs.all ownB = true) : ddT x = hrT x.o x.zs x.zs.length := by
 unfold ddT deedW; rw [if_pos h, if_pos c, if_pos z, hr_all]
theorem dd_inhN {x : Dd} (c : x.k = 1) (z : x.zs.all ownB = false) : ddT x = [] := by
 unfold ddT deedW; rw [if_pos c, z]; split <;> rfl
theorem dd_oth {x : Dd} (c : x.k ≠ 1) (t : ownB x.t = false) : ddT x = [] := by
 unfold ddT deedW; rw [if_neg c, t]; split <;> rfl
theorem dd_join {x : Dd} (h : ownB x.o = true ∧ x.zs.length ≤ 12) (c : x.k = 2) (t : ownB x.t = true) : ddT x = jzb ++ spT x.o ++ spT x.t := by
 unfold ddT deedW; rw [if_pos h, c, t]; simp [join_three, spT]
theorem dd_sell {x : Dd} (h : ownB x.o = true ∧ x.zs.length ≤ 12) (c : x.k = 0) (t : ownB x.t = true) (v : Wsh.vfB x.n x.d = true) : ddT x = jzc ++ spT x.o ++ spT x.t ++ [32] ++ (frT x.n x.d).data.toList := by
 unfold ddT deedW; rw [if_pos h, c, t, v]; simp [join_four, spT]
theorem dd_sellN {x : Dd} (c : x.k = 0) (v : Wsh.vfB x.n x.d = false) : ddT x = [] := by
 unfold ddT deedW; rw [c, v]; simp; rfl
theorem dd_none {x : Dd} (c0 : x.k ≠ 0) (c1 : x.k ≠ 1) (c2 : x.k ≠ 2) : ddT x = [] := by
 unfold ddT deedW; rw [if_neg c1, if_neg c2, if_neg (fun (c : x.k = 0 ∧ _) => c0 c.1)]
 split
 ·split <;> rfl
 ·rfl
theorem all_at {zs : List Int} {k : Nat} (h : zs.all ownB = true) (hk : k < zs.length) : ownB (zs.getD k 0) = true := by
 rw [List.getD_eq_getElem?_getD, List.getElem?_eq_getElem hk]; exact List.all_eq_true.1 h _ (List.getElem_mem hk)
theorem all_not {zs : List Int} {k : Nat} (hk : k < zs.length) (h : ownB (zs.getD k 0) = false) : zs.all ownB = false := by
 cases c : zs.all ownB with
 | false => rfl
 | true => rw [all_at c hk] at h; cases h
theorem all_up {zs : List Int} (h : ∀ j, j < zs.length → ownB (zs.getD j 0) = true) : zs.all ownB = true := by
 rw [List.all_eq_true]; intro z m; obtain ⟨j, hj, rfl⟩ := List.mem_iff_getElem.1 m; have := h j hj; rw [List.getD_eq_getElem?_getD, List.getElem?_eq_getElem hj] at this; exact this
abbrev tE : ByteArray := { data := #[] }
def nA (L : List ByteArray) (k : Nat) : Int := if k < L.length then rdS 10000000 (L.getD k tE) else -1
def pA (L : List ByteArray) (k : Nat) : Int × Int := if k < L.length ∧ pok (L.getD k tE) = true then (pnum (L.getD k tE), pden (L.getD k tE)) else (0, 0)
def hA (L : List ByteArray) : List Int := (L.drop 2).map (rdS 10000000)
def kw (L : List ByteArray) : List UInt8 := (L.getD 0 tE).data.toList
def rdD (L : List ByteArray) : Dd :=
 if kw L = jzc then ⟨0, nA L 1, nA L 2, (pA L 3).1, (pA L 3).2, []⟩
 else if kw L = kInh then ⟨1, nA L 1, 0, 0, 0, hA L⟩
 else if kw L = jzb then ⟨2, nA L 1, nA L 2, 0, 0, []⟩
 else dd0
def rdP (L : List ByteArray) : Ev :=
 if kw L = jz0 then ⟨1, dd0, 0, nA L 1⟩
 else if kw L = jz4 then ⟨2, dd0, nA L 1, nA L 2⟩
 else if kw L = jz5 then ⟨3, dd0, nA L 1, nA L 2⟩
 else if kw L = kDig then ⟨4, dd0, nA L 1, nA L 2⟩
 else if kw L = jzg then ⟨5, dd0, 0, nA L 1⟩
 else ⟨0, rdD L, 0, 0⟩
def nsM (L : List ByteArray) : List Int := (L.drop 1).map (rdS 1000000)
def rdM (L : List ByteArray) : Option Ev :=
  if kw L = jzc then
    (if L.length = 4 ∧ pok (L.getD 3 tE) = true then some ⟨0, ⟨0, rdS 1000000 (L.getD 1 tE), rdS 1000000 (L.getD 2 tE), pnum (L.getD 3 tE), pden (L.getD 3 tE), []⟩, 0, 0⟩ else none)
  else if (nsM L).all (fun n => decide (0 ≤ n)) = true ∧ nsM L ≠ [] then
    (if kw L = jzb ∧ (nsM L).length = 2 then some ⟨0, ⟨2, (nsM L).getD 0 0, (nsM L).getD 1 0, 0, 0, []⟩, 0, 0⟩
     else if kw L = kInh then some ⟨0, ⟨1, (nsM L).getD 0 0, 0, 0, 0, (nsM L).drop 1⟩, 0, 0⟩
     else if kw L = jz0 ∧ (nsM L).length = 1 then some ⟨1, dd0, 0, (nsM L).getD 0 0⟩
     else if kw L = jzg ∧ (nsM L).length = 1 then some ⟨5, dd0, 0, (nsM L).getD 0 0⟩
     else if kw L = jz4 ∧ (nsM L).length = 2 then some ⟨2, dd0, (nsM L).getD 0 0, (nsM L).getD 1 0⟩
     else if kw L = jz5 ∧ (nsM L).length = 2 then some ⟨3, dd0, (nsM L).getD 0 0, (nsM L).getD 1 0⟩
     else if kw L = kDig ∧ (nsM L).length = 2 then some ⟨4, dd0, (nsM L).getD 0 0, (nsM L).getD 1 0⟩
     else none)
  else none
def parM (s : ByteArray) : Option Ev := match rdM (cutS 32 s) with
 | some e => if s.size ≠ 0 ∧ fmE e = s then some e else none
 | none => none
def parP (L : List ByteArray) (s : ByteArray) : Option Ev := if s.size ≠ 0 ∧ fmE (rdP L) = s then some (rdP L) else none
theorem rdS_num {lim : Nat} {n : Int} (h0 : 0 ≤ n) (h : n < lim) : rdS lim (txt (nT n)) = n := by
 unfold rdS nT; rw [txt_list, rd_dec (by omega)]
 omega
theorem sml_bd {n : Int} (h : smlB n = true) : 0 ≤ n ∧ n < 1000000 := by have := sml_iff.1 h; omega
theorem own_bd {n : Int} (h : ownB n = true) : 0 ≤ n ∧ n < 1000000 := by have := own_iff.1 h; omega
theorem rd10 {n : Int} (h : 0 ≤ n ∧ n < 1000000) : rdS 10000000 (txt (nT n)) = n := rdS_num h.1 (by omega)
theorem rd6 {n : Int} (h : 0 ≤ n ∧ n < 1000000) : rdS 1000000 (txt (nT n)) = n := rdS_num h.1 (by omega)
theorem kw_txt (a : List UInt8) (r : List ByteArray) : kw (txt a :: r) = a := rfl
theorem nA_one (a : ByteArray) (n : Int) (r : List ByteArray) (h : 0 ≤ n ∧ n < 1000000) : nA (a :: txt (nT n) :: r) 1 = n := by
 unfold nA; rw [if_pos (by simp)]; exact rd10 h
theorem nA_two (a b : ByteArray) (n : Int) (r : List ByteArray) (h : 0 ≤ n ∧ n < 1000000) : nA (a :: b :: txt (nT n) :: r) 2 = n := by
 unfold nA; rw [if_pos (by simp)]; exact rd10 h
theorem pA_three (a b c : ByteArray) {n d : Int} (h : Wsh.vfB n d = true) : pA [a, b, c, frT n d] 3 = (n, d) := by
 have q := fr_read h; unfold pA; rw [if_pos ⟨by simp, q.1⟩]
 show (pnum (frT n d), pden (frT n d)) = _
 rw [q.2.1, q.2.2]
theorem map_rd {lim : Nat} (zs : List Int) (hz : zs.all ownB = true) (hl : 1000000 ≤ lim) : (zs.map (fun z => txt (nT z))).map (rdS lim) = zs := by
 rw [List.map_map]
 conv => rhs; rw [← List.map_id zs]
 apply List.map_congr_left
 intro z m; have := own_bd (List.all_eq_true.1 hz z m)
 show rdS lim (txt (nT z)) = z
 exact rdS_num this.1 (by omega)
theorem read_can {e : Ev} (h : evW e ≠ []) (hc : canE e = e) : rdP ((evW e).map txt) = e ∧ rdM ((evW e).map txt) = some e := by
 obtain ⟨hk, h1, h2⟩ := ev_kinds e h; have b1 := sml_bd h1; have b2 := sml_bd h2; obtain ⟨k, x, at_, nu⟩ := e; dsimp only at hk h1 h2 b1 b2
 rcases hk with c | c | c | c | c | c
 ·subst c
  have q : canE ⟨0, x, at_, nu⟩ = ⟨0, canD x, 0, 0⟩ := rfl; rw [q] at hc; injection hc with _ hx ha hn; subst ha; subst hn; have w : evW ⟨0, x, 0, 0⟩ = deedW x := rfl; rw [w] at h ⊢; have hk := deed_kinds x h; obtain ⟨k, o, t, n, d, zs⟩ := x; dsimp only at hk
  rcases hk with c | c | c
  ·subst c
   have q : canD ⟨0, o, t, n, d, zs⟩ = ⟨0, o, t, n, d, []⟩ := rfl; rw [q] at hx; injection hx with _ _ _ _ _ hz; subst hz; unfold deedW at h ⊢; dsimp only at h ⊢
   by_cases a : ownB o = true ∧ ([] : List Int).length ≤ 12
   ·rw [if_pos a] at h ⊢
    rw [if_neg (by decide)] at h ⊢
    by_cases b : ownB t = true
    ·rw [if_pos b] at h ⊢
     rw [if_neg (by decide)] at h ⊢
     by_cases v : (0 : Int) = 0 ∧ Wsh.vfB n d = true
     ·rw [if_pos v]
      have bo := own_bd a.1; have bt' := own_bd b; have q := fr_read v.2
      constructor
      ·show rdP [txt jzc, txt (nT o), txt (nT t), frT n d] = _
       unfold rdP rdD; rw [kw_txt, if_neg (by decide), if_neg (by decide), if_neg (by decide), if_neg (by decide), if_neg (by decide), if_pos rfl, nA_one _ _ _ bo, nA_two _ _ _ _ bt', pA_three _ _ _ v.2]
      ·show rdM [txt jzc, txt (nT o), txt (nT t), frT n d] = _
       unfold rdM; rw [kw_txt, if_pos rfl, if_pos ⟨rfl, q.1⟩]
       show some (⟨0, ⟨0, rdS 1000000 (txt (nT o)), rdS 1000000 (txt (nT t)), pnum (frT n d), pden (frT n d), []⟩, 0, 0⟩ : Ev) = _
       rw [rd6 bo, rd6 bt', q.2.1, q.2.2]
     ·rw [if_neg v] at h; exact absurd rfl h
    ·rw [if_neg b] at h; exact absurd rfl h
   ·rw [if_neg a] at h; exact absurd rfl h
  ·subst c
   have q : canD ⟨1, o, t, n, d, zs⟩ = ⟨1, o, 0, 0, 0, zs⟩ := rfl; rw [q] at hx; injection hx with _ _ ht hn hd _; subst ht; subst hn; subst hd; unfold deedW at h ⊢; dsimp only at h ⊢
   by_cases a : ownB o = true ∧ zs.length ≤ 12
   ·rw [if_pos a] at h ⊢
    rw [if_pos rfl] at h ⊢
    by_cases b : zs.all ownB = true
    ·rw [if_pos b]
     have bo := own_bd a.1
     have e1 : ((kInh :: nT o :: zs.map nT).map txt) = txt kInh :: txt (nT o) :: zs.map (fun z => txt (nT z)) := by simp
     rw [e1]
     constructor
     ·unfold rdP rdD
      rw [kw_txt, if_neg (by decide), if_neg (by decide), if_neg (by decide), if_neg (by decide), if_neg (by decide), if_neg (by decide), if_pos rfl, nA_one _ _ _ bo]; unfold hA
      show (⟨0, ⟨1, o, 0, 0, 0, (zs.map (fun z => txt (nT z))).map (rdS 10000000)⟩, 0, 0⟩ : Ev) = _
      rw [map_rd zs b (by omega)]
     ·have e2 : nsM (txt kInh :: txt (nT o) :: zs.map (fun z => txt (nT z))) = o :: zs := by
       show rdS 1000000 (txt (nT o)) :: (zs.map (fun z => txt (nT z))).map (rdS 1000000) = _
       rw [rd6 bo, map_rd zs b (by omega)]
      have e3 : (o :: zs).all (fun n => decide (0 ≤ n)) = true := by
       rw [List.all_eq_true]; intro z m
       rcases List.mem_cons.1 m with m | m
       ·subst m; exact decide_eq_true bo.1
       ·exact decide_eq_true (own_bd (List.all_eq_true.1 b z m)).1
      unfold rdM; rw [e2, kw_txt, if_neg (by decide), if_pos ⟨e3, by simp⟩, if_neg (fun c => absurd c.1 (by decide)), if_pos rfl]
      rfl
    ·rw [if_neg b] at h; exact absurd rfl h
   ·rw [if_neg a] at h; exact absurd rfl h
  ·subst c
   have q : canD ⟨2, o, t, n, d, zs⟩ = ⟨2, o, t, 0, 0, []⟩ := rfl; rw [q] at hx; injection hx with _ _ _ hn hd hz; subst hn; subst hd; subst hz; unfold deedW at h ⊢; dsimp only at h ⊢
   by_cases a : ownB o = true ∧ ([] : List Int).length ≤ 12
   ·rw [if_pos a] at h ⊢
    rw [if_neg (by decide)] at h ⊢
    by_cases b : ownB t = true
    ·rw [if_pos b, if_pos rfl]
     have bo := own_bd a.1; have bt' := own_bd b
     constructor
     ·show rdP [txt jzb, txt (nT o), txt (nT t)] = _
      unfold rdP rdD; rw [kw_txt, if_neg (by decide), if_neg (by decide), if_neg (by decide), if_neg (by decide), if_neg (by decide), if_neg (by decide), if_neg (by decide), if_pos rfl, nA_one _ _ _ bo, nA_two _ _ _ _ bt']
     ·have e2 : nsM [txt jzb, txt (nT o), txt (nT t)] = [o, t] := by
       show [rdS 1000000 (txt (nT o)), rdS 1000000 (txt (nT t))] = _
       rw [rd6 bo, rd6 bt']
      show rdM [txt jzb, txt (nT o), txt (nT t)] = _
      unfold rdM; rw [e2, kw_txt, if_neg (by decide), if_pos ⟨by simp [bo.1, bt'.1], by simp⟩, if_pos ⟨rfl, rfl⟩]
      rfl
    ·rw [if_neg b] at h; exact absurd rfl h
   ·rw [if_neg a] at h; exact absurd rfl h
 ·subst c
  have q : canE ⟨1, x, at_, nu⟩ = ⟨1, dd0, 0, nu⟩ := rfl; rw [q] at hc; injection hc with _ hx ha hn; subst ha; subst hx
  have w : evW ⟨1, dd0, 0, nu⟩ = [jz0, nT nu] := by unfold evW; rw [if_pos ⟨h1, h2⟩]; rfl
  rw [w]
  constructor
  ·show rdP [txt jz0, txt (nT nu)] = _
   unfold rdP; rw [kw_txt, if_pos rfl, nA_one _ _ _ b2]
  ·have e2 : nsM [txt jz0, txt (nT nu)] = [nu] := by
    show [rdS 1000000 (txt (nT nu))] = _
    rw [rd6 b2]
   show rdM [txt jz0, txt (nT nu)] = _
   unfold rdM; rw [e2, kw_txt, if_neg (by decide), if_pos ⟨by simp [b2.1], by simp⟩, if_neg (fun c => absurd c.1 (by decide)), if_neg (by decide), if_pos ⟨rfl, rfl⟩]
   rfl
 ·subst c
  have q : canE ⟨2, x, at_, nu⟩ = ⟨2, dd0, at_, nu⟩ := rfl; rw [q] at hc; injection hc with _ hx ha hn; subst hx
  have w : evW ⟨2, dd0, at_, nu⟩ = [jz4, nT at_, nT nu] := by unfold evW; rw [if_pos ⟨h1, h2⟩]; rfl
  rw [w]
  constructor
  ·show rdP [txt jz4, txt (nT at_), txt (nT nu)] = _
   unfold rdP; rw [kw_txt, if_neg (by decide), if_pos rfl, nA_one _ _ _ b1, nA_two _ _ _ _ b2]
  ·have e2 : nsM [txt jz4, txt (nT at_), txt (nT nu)] = [at_, nu] := by
    show [rdS 1000000 (txt (nT at_)), rdS 1000000 (txt (nT nu))] = _
    rw [rd6 b1, rd6 b2]
   show rdM [txt jz4, txt (nT at_), txt (nT nu)] = _
   unfold rdM; rw [e2, kw_txt, if_neg (by decide), if_pos ⟨by simp [b1.1, b2.1], by simp⟩, if_neg (fun c => absurd c.1 (by decide)), if_neg (by decide), if_neg (fun c => absurd c.1 (by decide)), if_neg (fun c => absurd c.1 (by decide)), if_pos ⟨rfl, rfl⟩]
   rfl
 ·subst c
  have q : canE ⟨3, x, at_, nu⟩ = ⟨3, dd0, at_, nu⟩ := rfl; rw [q] at hc; injection hc with _ hx ha hn; subst hx
  have w : evW ⟨3, dd0, at_, nu⟩ = [jz5, nT at_, nT nu] := by unfold evW; rw [if_pos ⟨h1, h2⟩]; rfl
  rw [w]
  constructor
  ·show rdP [txt jz5, txt (nT at_), txt (nT nu)] = _
   unfold rdP; rw [kw_txt, if_neg (by decide), if_neg (by decide), if_pos rfl, nA_one _ _ _ b1, nA_two _ _ _ _ b2]
  ·have e2 : nsM [txt jz5, txt (nT at_), txt (nT nu)] = [at_, nu] := by
    show [rdS 1000000 (txt (nT at_)), rdS 1000000 (txt (nT nu))] = _
    rw [rd6 b1, rd6 b2]
   show rdM [txt jz5, txt (nT at_), txt (nT nu)] = _
   unfold rdM; rw [e2, kw_txt, if_neg (by decide), if_pos ⟨by simp [b1.1, b2.1], by simp⟩, if_neg (fun c => absurd c.1 (by decide)), if_neg (by decide), if_neg (fun c => absurd c.1 (by decide)), if_neg (fun c => absurd c.1 (by decide)), if_neg (fun c => absurd c.1 (by decide)), if_pos ⟨rfl, rfl⟩]
   rfl
 ·subst c
  have q : canE ⟨4, x, at_, nu⟩ = ⟨4, dd0, at_, nu⟩ := rfl; rw [q] at hc; injection hc with _ hx ha hn; subst hx
  have w : evW ⟨4, dd0, at_, nu⟩ = [kDig, nT at_, nT nu] := by unfold evW; rw [if_pos ⟨h1, h2⟩]; rfl
  rw [w]
  constructor
  ·show rdP [txt kDig, txt (nT at_), txt (nT nu)] = _
   unfold rdP; rw [kw_txt, if_neg (by decide), if_neg (by decide), if_neg (by decide), if_pos rfl, nA_one _ _ _ b1, nA_two _ _ _ _ b2]
  ·have e2 : nsM [txt kDig, txt (nT at_), txt (nT nu)] = [at_, nu] := by
    show [rdS 1000000 (txt (nT at_)), rdS 1000000 (txt (nT nu))] = _
    rw [rd6 b1, rd6 b2]
   show rdM [txt kDig, txt (nT at_), txt (nT nu)] = _
   unfold rdM; rw [e2, kw_txt, if_neg (by decide), if_pos ⟨by simp [b1.1, b2.1], by simp⟩, if_neg (fun c => absurd c.1 (by decide)), if_neg (by decide), if_neg (fun c => absurd c.1 (by decide)), if_neg (fun c => absurd c.1 (by decide)), if_neg (fun c => absurd c.1 (by decide)), if_neg (fun c => absurd c.1 (by decide)), if_pos ⟨rfl, rfl⟩]
   rfl
 ·subst c
  have q : canE ⟨5, x, at_, nu⟩ = ⟨5, dd0, 0, nu⟩ := rfl; rw [q] at hc; injection hc with _ hx ha hn; subst ha; subst hx
  have w : evW ⟨5, dd0, 0, nu⟩ = [jzg, nT nu] := by unfold evW; rw [if_pos ⟨h1, h2⟩]; rfl
  rw [w]
  constructor
  ·show rdP [txt jzg, txt (nT nu)] = _
   unfold rdP; rw [kw_txt, if_neg (by decide), if_neg (by decide), if_neg (by decide), if_neg (by decide), if_pos rfl, nA_one _ _ _ b2]
  ·have e2 : nsM [txt jzg, txt (nT nu)] = [nu] := by
    show [rdS 1000000 (txt (nT nu))] = _
    rw [rd6 b2]
   show rdM [txt jzg, txt (nT nu)] = _
   unfold rdM; rw [e2, kw_txt, if_neg (by decide), if_pos ⟨by simp [b2.1], by simp⟩, if_neg (fun c => absurd c.1 (by decide)), if_neg (by decide), if_neg (fun c => absurd c.1 (by decide)), if_pos ⟨rfl, rfl⟩]
   rfl
theorem fm_words {e : Ev} (h : evW e ≠ []) : cutS 32 (fmE e) = (evW e).map txt := cut_join (c := 32) h (words_no (c := 32) (by decide) e)
theorem fm_ne {e : Ev} {s : ByteArray} (h0 : s.size ≠ 0) (h : fmE e = s) : evW e ≠ [] := by
 intro c
 apply h0
 rw [← h]; unfold fmE; rw [(evT_nil e).2 c]
 rfl
theorem fm_can {e : Ev} (h : evW e ≠ []) : fmE (canE e) = fmE e := by unfold fmE evT; rw [can_words h]
theorem fm_size {e : Ev} (h : evW e ≠ []) : (fmE e).size ≠ 0 := by
 intro c; unfold fmE at c; rw [txt_size] at c; exact h ((evT_nil e).1 (List.eq_nil_of_length_eq_zero c))
theorem par_of {e : Ev} (h : evW e ≠ []) {L : List ByteArray} (hL : (cutS 32 (fmE e)).length ≤ 14 → L = cutS 32 (fmE e)) : parP L (fmE e) = some (canE e) ∧ parM (fmE e) = some (canE e) := by
 have hw := fm_words h
 have hl : (cutS 32 (fmE e)).length ≤ 14 := by rw [hw, List.length_map]; exact words_len e
 have hc := read_can (e := canE e) (by rw [can_words h]; exact h) (can_twice e); rw [can_words h] at hc
 constructor
 ·unfold parP
  rw [hL hl, hw, hc.1, if_pos ⟨fm_size h, fm_can h⟩]
 ·unfold parM
  rw [hw, hc.2]; dsimp only; rw [if_pos ⟨fm_size h, fm_can h⟩]
theorem par_same {s : ByteArray} {L : List ByteArray} (hL : (cutS 32 s).length ≤ 14 → L = cutS 32 s) : parP L s = parM s := by
 by_cases h : s.size ≠ 0 ∧ ∃ e, fmE e = s
 ·obtain ⟨h0, e, rfl⟩ := h
  have := par_of (fm_ne h0 rfl) hL; rw [this.1, this.2]
 ·have a : parP L s = none := by unfold parP; rw [if_neg (fun c => h ⟨c.1, _, c.2⟩)]
  have b : parM s = none := by
   unfold parM
   cases rdM (cutS 32 s) with
   | none => rfl
   | some e => dsimp only; rw [if_neg (fun c => h ⟨c.1, _, c.2⟩)]
  rw [a, b]
theorem par_is {s : ByteArray} {e : Ev} (h : parM s = some e) : s.size ≠ 0 ∧ fmE e = s ∧ evW e ≠ [] ∧ canE e = e := by
  have key : s.size ≠ 0 ∧ fmE e = s := by
    unfold parM at h
    cases c : rdM (cutS 32 s) with
    | none => rw [c] at h; cases h
    | some x =>
      rw [c] at h; dsimp only at h
      by_cases q : s.size ≠ 0 ∧ fmE x = s
      · rw [if_pos q] at h; injection h with h; subst h; exact q
      · rw [if_neg q] at h; cases h
  have hn := fm_ne key.1 key.2; refine ⟨key.1, key.2, hn, ?_⟩; have := (par_of hn (L := cutS 32 (fmE e)) (fun _ => rfl)).2; rw [key.2, h] at this; injection this with this; exact this.symm



def sets6o (w : World) (b o : Nat) (v0 v1 v2 v3 v4 v5 : Value) : World := ((((((w.setCell ⟨b, o, none⟩ v0).setCell ⟨b, o + 1, none⟩ v1).setCell ⟨b, o + 2, none⟩ v2).setCell ⟨b, o + 3, none⟩ v3).setCell ⟨b, o + 4, none⟩ v4).setCell ⟨b, o + 5, none⟩ v5)
theorem wpList_store6 {P : Program} {ops : Array Oper} {rest : List Oper} {op : Oper} {a : Act} {w : World} {Q : Exit → Act → World → Prop} (hgd : op.guard = none) (ty : TypeId) (x y : Operand) (ho : op.op = .store ty x y)
  (b o : Nat) (v0 v1 v2 v3 v4 v5 : Value) (hx : a.eval x = .pointer (some ⟨b, o, none⟩)) (hy : a.eval y = .agg #[v0, v1, v2, v3, v4, v5]) {t : TypeId} {cs : Array Value} (K : Blk w b t cs) (hsz : Nat.ble (o + 6) cs.size = true)
  (hi : (P.info? ty).map (·.size) = some 6) (h1 : (v0.oneCell' && v1.oneCell' && v2.oneCell' && v3.oneCell' && v4.oneCell' && v5.oneCell') = true)
  (h : wpList P ops Q rest (a.put op.dst undef) (sets6o w b o v0 v1 v2 v3 v4 v5)) : wpList P ops Q (op :: rest) a w := by
 have h2 : (#[v0, v1, v2, v3, v4, v5] : Array Value).all (·.oneCell') = true := by
  simp only [Bool.and_eq_true] at h1; obtain ⟨⟨⟨⟨⟨a0, a1⟩, a2⟩, a3⟩, a4⟩, a5⟩ := h1
  simp [a0, a1, a2, a3, a4, a5]
 have hs := Nat.le_of_ble_eq_true hsz; refine wpList_store_mid hgd ty x y ho b o #[v0, v1, v2, v3, v4, v5] hx hy (fun j hj => ?_) hi h2 ?_
 ·have hj' : j < 6 := hj
  have hlt : o + j < cs.size := by omega
  refine ⟨?_, K.frozen _⟩; have := K.cell (o + j); rw [Array.getElem?_eq_getElem hlt] at this; rw [this]; rfl
 ·exact h
theorem cut_hit {c : Int} {s : ByteArray} {p e : Nat} {P : List ByteArray} (h : jj0 c s p = (P, p)) (h1 : bt s (p + e) = c) (h2 : ∀ j, p ≤ j → j < p + e → bt s j ≠ c) : jj0 c s (p + e + 1) = (P ++ [s.extract p (p + e)], p + e + 1) := by
 rw [cutTo_hit h1, cut_quiet e p h2, h]
theorem bt_rest {s : ByteArray} {p j : Nat} (h : p + j < s.size) : bt (s.extract p s.size) j = bt s (p + j) := bt_ext s p s.size j h
theorem rest_size (s : ByteArray) (p : Nat) : (s.extract p s.size).size = s.size - p := by simp
theorem ext_ext1 (s : ByteArray) {p e : Nat} (h : p + e ≤ s.size) : (s.extract p s.size).extract 0 e = s.extract p (p + e) := by
 rw [ByteArray.extract_extract, show min (p + e) s.size = p + e by omega]; rfl
theorem ext_ext2 (s : ByteArray) (p e : Nat) : (s.extract p s.size).extract (e + 1) (s.size - p) = s.extract (p + e + 1) s.size := by
 rw [ByteArray.extract_extract]; congr 1; omega

theorem rest_ix (c : Nat) (s : ByteArray) (p : Nat) : (∃ e, p + e < s.size ∧ bt s (p + e) = c ∧ (∀ j, p ≤ j → j < p + e → bt s j ≠ c) ∧ idxI c (s.extract p s.size) = e) ∨ ((∀ j, p ≤ j → j < s.size → bt s j ≠ c) ∧ idxI c (s.extract p s.size) = -1) := by
 rcases idx_or c (s.extract p s.size) with ⟨k, h1, h2, h3, h4⟩ | ⟨h1, h2⟩
 ·rw [rest_size s p] at h1
  rw [bt_rest (by omega)] at h2; refine .inl ⟨k, by omega, h2, fun j a b => ?_, h4⟩; have := h3 (j - p) (by omega); rw [bt_rest (by omega), show p + (j - p) = j by omega] at this; exact this
 ·refine .inr ⟨fun j a b => ?_, h2⟩
  have := h1 (j - p) (by rw [rest_size s p]; omega); rw [bt_rest (by omega), show p + (j - p) = j by omega] at this; exact this
theorem cut_rest {c : Int} {s : ByteArray} {p : Nat} {P : List ByteArray} (h : jj0 c s p = (P, p)) (hp : p ≤ s.size) (h2 : ∀ j, p ≤ j → j < s.size → bt s j ≠ c) : cutS c s = P ++ [s.extract p s.size] := by
 have := cut_quiet (c := c) (s := s) (s.size - p) p (fun j a b => h2 j a (by omega)); rw [show p + (s.size - p) = s.size by omega, h] at this; unfold cutS; rw [this]
theorem cut_over {c : Int} {s : ByteArray} {k : Nat} {P : List ByteArray} (h : (jj0 c s k).1 = P) (hk : k ≤ s.size) : P.length < (cutS c s).length := by
 have a := cut_grows c s (s.size - k) k; rw [show k + (s.size - k) = s.size by omega, h] at a; unfold cutS; simp; omega
theorem words_full {s : ByteArray} {p : Nat} {P : List ByteArray} (h : jj0 32 s p = (P, p)) (hp : p ≤ s.size) (h13 : P.length = 13) : (cutS 32 s).length ≤ 14 → P ++ [s.extract p s.size] = cutS 32 s := by
 intro hl
 rcases rest_ix 32 s p with ⟨e, he, hb, hn, _⟩ | ⟨hn, _⟩
 ·have := cut_over (c := 32) (s := s) (k := p + e + 1) (P := P ++ [s.extract p (p + e)]) (by rw [cut_hit h hb hn]) (by omega)
  simp at this; omega
 ·exact (cut_rest h hp hn).symm
theorem hA_next {L : List ByteArray} {k : Nat} (h2 : 2 ≤ k) (hk : k < L.length) : hA (L.take (k + 1)) = hA (L.take k) ++ [nA L k] := by
 unfold hA nA; rw [if_pos hk, List.take_add_one, List.drop_append_of_le_length (by rw [List.length_take]; omega), List.map_append, List.getD_eq_getElem?_getD, List.getElem?_eq_getElem hk]
 rfl
theorem hA_two (L : List ByteArray) : hA (L.take 2) = [] := by
 unfold hA; rw [List.drop_eq_nil_of_le (by rw [List.length_take]; omega)]; rfl
theorem hA_all {L : List ByteArray} {k : Nat} (h : L.length ≤ k) : hA (L.take k) = hA L := by rw [List.take_of_length_le h]
theorem hA_len (L : List ByteArray) : (hA L).length = L.length - 2 := by unfold hA; simp
theorem nA_no {L : List ByteArray} {k : Nat} (h : ¬ k < L.length) : nA L k = -1 := by unfold nA; rw [if_neg h]
theorem nA_yes {L : List ByteArray} {k : Nat} (h : k < L.length) : nA L k = rdS 10000000 (L.getD k tE) := by unfold nA; rw [if_pos h]
theorem pA_no {L : List ByteArray} {k : Nat} (h : ¬ k < L.length) : pA L k = (0, 0) := by unfold pA; rw [if_neg (fun c => h c.1)]
theorem pA_bad {L : List ByteArray} {k : Nat} (h : pok (L.getD k tE) = false) : pA L k = (0, 0) := by unfold pA; rw [if_neg (fun c => by rw [h] at c; cases c.2)]
theorem pA_yes {L : List ByteArray} {k : Nat} (h : k < L.length) (hp : pok (L.getD k tE) = true) : pA L k = (pnum (L.getD k tE), pden (L.getD k tE)) := by unfold pA; rw [if_pos ⟨h, hp⟩]
theorem getD_memS {L : List ByteArray} {k : Nat} (h : k < L.length) : L.getD k tE ∈ L := by
 rw [List.getD_eq_getElem?_getD, List.getElem?_eq_getElem h]; exact List.getElem_mem h
def StrO (w : World) (base : Nat) (v : Value) (L : List ByteArray) : Prop := w.ownsRow base 9 1 v L.length (L.map Value.string)
def IsStr (w : World) (a : Option Addr) (L : List ByteArray) : Prop := L = [] ∨ ∃ g o, a = some ⟨g, o, none⟩ ∧ ∀ i, i < L.length → w.cell? ⟨g, o + i, none⟩ = some (.string (L.getD i tE))
theorem str_below {w w' : World} {a : Option Addr} {L : List ByteArray} (h : IsStr w a L) (hB : Below w.heap.size w w') : IsStr w' a L := by
 rcases h with h | ⟨g, o, ha, hc⟩
 ·exact .inl h
 ·exact .inr ⟨g, o, ha, fun i hi => (hB.cell (p := ⟨g, o + i, none⟩) (World.block_lt_of_cell? w _ (hc i hi))).trans (hc i hi)⟩
theorem StrO.form {w : World} {base : Nat} {v : Value} {L : List ByteArray} (h : StrO w base v L) (hL : L ≠ []) : ∃ g cp, v = .slice (some ⟨g, 0, none⟩) L.length cp ∧ base ≤ g ∧ IsStr w (some ⟨g, 0, none⟩) L := by
 have hp : 0 < L.length := List.length_pos_iff.2 hL; obtain ⟨g, cp, rfl, lg, _⟩ := World.ownsRow.form h hp; refine ⟨g, cp, rfl, lg, .inr ⟨g, 0, rfl, fun i hi => ?_⟩⟩; have := World.ownsRow.cellAt h i (by omega); rw [List.getElem?_map, List.getElem?_eq_getElem hi] at this; rw [Nat.zero_add, List.getD_eq_getElem?_getD, List.getElem?_eq_getElem hi]; exact this
theorem str_new {w W : World} (h : Below w.heap.size w W) : StrO (W.alloc (.cells #[] 9)) w.heap.size (.slice (some ⟨W.heap.size, 0, none⟩) 0 0) [] :=
 ⟨by simp, .inr ⟨W.heap.size, 0, #[], rfl, h.size, Go.Deep.blk_alloc_new _ _, Nat.le_refl _, by unfold maxLen; omega, rfl, rfl⟩⟩
theorem str_forms {w : World} {base : Nat} {v : Value} {L : List ByteArray} (hO : StrO w base v L) : ∃ b k, v = .slice b L.length k := by
 rcases Go.Joins.ownsRow_forms hO with ⟨e, hn⟩ | ⟨g, c, e⟩
 ·exact ⟨none, 0, by rw [hn]; exact e⟩
 ·exact ⟨_, c, e⟩
def sizeS : Value → Nat
 | .string s => s.size
 | _ => 0
def Wds (w : World) (s : ByteArray) (e : Ending) (w' : World) : Prop := ∃ (v : Value) (L : List ByteArray), e = .returned v ∧ StrO w' w.heap.size v L ∧ Below w.heap.size w w' ∧ L ≠ [] ∧ L.length ≤ 14 ∧ (∀ l ∈ L, l.size ≤ s.size) ∧ ((cutS 32 s).length ≤ 14 → L = cutS 32 s)
theorem iwords (s : ByteArray) (w : World) (h : s.size ≤ 4294967296) :
  Calls Try.prog 92 #[.string s] w (Wds w s) := by
 obtain ⟨i0, hi, hz0, hz1, hz2⟩ := info_parts infoStr; have K0 := str_new (Below.refl w.heap.size w)
 have B0 : Below w.heap.size w (w.alloc (.cells #[] 9)) := by go_grown
 have HS : Hid (s.extract 0 s.size = s) := by show _ = _; simp
 go_enter Try.func92, Try.ntmps92; go_wp2_with fail
 go_loopw [3, 4] (fun v r wr => ∃ (p : Nat) (P : List ByteArray), Hid (p ≤ s.size ∧ jj0 32 s p = (P, p) ∧ ∀ l ∈ P, l.size ≤ s.size) ∧ P.length ≤ 13 ∧ r = .string (s.extract p s.size) ∧ StrO wr w.heap.size v P ∧ Below w.heap.size w wr) (fun _ r _ => sizeS r)
 case atStart => exact ⟨0, [], ⟨Nat.zero_le _, rfl, fun l hl => (by cases hl)⟩, Nat.zero_le _, by rw [HS.out], K0, B0⟩
 case round =>
  clear K0 B0; obtain ⟨p, P, HP, h13, rfl, hO, hB⟩ := hrel; have hsz := hB.size; obtain ⟨hp, hc, hm⟩ := HP.out; have hR := rest_size s p; have zR : (s.extract p s.size).size ≤ s.size := ext_size _ _ _; obtain ⟨b, cap, rfl⟩ := str_forms hO
  have hmR : ∀ l ∈ P ++ [s.extract p s.size], l.size ≤ s.size := fun l hl => by
   rcases List.mem_append.1 hl with hl | hl
   ·exact hm l hl
   ·simp only [List.mem_singleton] at hl; subst hl; exact zR
  unfold StrO at hO
  by_cases hlt : P.length < 13
  ·have q0 : decide ((P.length : Int) < 13) = true := decide_eq_true (by omega)
   rcases rest_ix 32 s p with ⟨e, he, hb, hbn, hx⟩ | ⟨hbn, hx⟩
   ·have hH := cut_hit hc hb hbn
    have E1 := ext_ext1 s (p := p) (e := e) (by omega); have E2 := ext_ext2 s p e
    have hmP : ∀ l ∈ P ++ [(s.extract p s.size).extract 0 e], l.size ≤ s.size := fun l hl => by
     rcases List.mem_append.1 hl with hl | hl
     ·exact hm l hl
     ·simp only [List.mem_singleton] at hl; subst hl; exact Nat.le_trans (ext_size _ _ _) zR
    generalize s.extract p s.size = R at *; have HX := Lib.hid hx
    have z2 : R.size ≤ 4294967296 := by omega
    have q1 : (0 : Int) ≤ (e : Int) := by omega
    have q2 : (e : Int) ≤ (R.size : Int) := by omega
    have q3 : (0 : Int) ≤ (e : Int) + 1 := by omega
    have q4 : (e : Int) + 1 ≤ (R.size : Int) := by omega
    have q5 : ¬ (e : Int) < 0 := by omega
    have t1 : IntKind.i64.wrap ((e : Int) + 1) = (e : Int) + 1 := by rw [IntKind.wrap_i64]; omega
    have t2 : ((e : Int) + 1).toNat = e + 1 := by omega
    rw [← hR] at E2; rw [← E1] at hH; generalize hA_ : R.extract 0 e = A at *; generalize hD : R.extract (e + 1) R.size = R2 at *
    have zD : R2.size < R.size := by rw [E2, rest_size]; omega
    have HD := Lib.hid E2; have HN : Hid (p + e + 1 ≤ s.size ∧ jj0 32 s (p + e + 1) = (P ++ [A], p + e + 1) ∧ ∀ l ∈ P ++ [A], l.size ≤ s.size) := Lib.hid ⟨by omega, hH, hmP⟩; have O2 := Lib.hid (hO.alloc (.cells #[.string A] 9)); have HZ := Lib.hid zD; clear hx hH E1 E2 hb hbn hc hR hm hmP hmR HP zD; go_wp2_with fail; refine (iidx R 32 _ z2).mono ?_; rintro e3 w' ⟨rfl, rfl⟩; rw [HX.out]
    go_wp2_with (first | (at_builtin; refine wpList_append_own _ rfl _ _ 123 rfl w.heap.size 9 i0 (.string { data := #[] }) 1 16 Try.underlying123 hi hz0 hz1 hz2 rfl (by decide) _ _ _ rfl O2.out ⟨wr.heap.size, 0, none⟩ 1 1 [.string A] rfl rfl (cell_one_new _ _ _) (fun x hx => by simp at hx; subst hx; rfl) (by unfold maxLen; omega) (by omega) (by simp; omega) ?_; intro v2 w2 hO2 hg2 hat2))
    have HR : Hid (StrO w2 w.heap.size v2 (P ++ [A]) ∧ Below w.heap.size w w2) := by
     refine ⟨?_, (hB.alloc hsz _).grown hg2 (by simp; omega) (fun q hq => (World.ownsRow.lt hO q hq).1)⟩; unfold StrO; rw [List.map_append, List.length_append]; exact hO2
    clear hO2 hg2 hat2 O2 hB hO
    go_roundw
    case rel => exact ⟨p + e + 1, P ++ [A], HN, by simp; omega, by rw [HD.out], HR.out.1, HR.out.2⟩
    case measure => simp only [sizeS]; exact HZ.out
   ·have HL : Hid (P ++ [s.extract p s.size] = cutS 32 s) := Lib.hid (cut_rest hc hp hbn).symm
    generalize s.extract p s.size = R at *; have HX := Lib.hid hx
    have z2 : R.size ≤ 4294967296 := by omega
    have O2 := Lib.hid (hO.alloc (.cells #[.string R] 9)); have HM := Lib.hid hmR; clear hx hbn hc hm hmR HP; go_wp2_with fail; refine (iidx R 32 _ z2).mono ?_; rintro e3 w' ⟨rfl, rfl⟩; rw [HX.out]
    go_wp2_with (first | (at_builtin; refine wpList_append_own _ rfl _ _ 123 rfl w.heap.size 9 i0 (.string { data := #[] }) 1 16 Try.underlying123 hi hz0 hz1 hz2 rfl (by decide) _ _ _ rfl O2.out ⟨wr.heap.size, 0, none⟩ 1 1 [.string R] rfl rfl (cell_one_new _ _ _) (fun x hx => by simp at hx; subst hx; rfl) (by unfold maxLen; omega) (by omega) (by simp; omega) ?_; intro v2 w2 hO2 hg2 hat2))
    have HR : Hid (StrO w2 w.heap.size v2 (P ++ [R]) ∧ Below w.heap.size w w2) := by
     refine ⟨?_, (hB.alloc hsz _).grown hg2 (by simp; omega) (fun q hq => (World.ownsRow.lt hO q hq).1)⟩; unfold StrO; rw [List.map_append, List.length_append]; exact hO2
    clear hO2 hg2 hat2 O2 hB hO; go_ret; exact ⟨v2, P ++ [R], rfl, HR.out.1, HR.out.2, by simp, by simp; omega, HM.out, fun _ => HL.out⟩
  ·have q0 : decide ((P.length : Int) < 13) = false := decide_eq_false (by omega)
   have h3 : P.length = 13 := by omega
   have HL := Lib.hid (words_full hc hp h3); generalize s.extract p s.size = R at *; have O2 := Lib.hid (hO.alloc (.cells #[.string R] 9)); have HM := Lib.hid hmR; clear hc hm hmR HP h3
   go_wp2_with (first | (at_builtin; refine wpList_append_own _ rfl _ _ 123 rfl w.heap.size 9 i0 (.string { data := #[] }) 1 16 Try.underlying123 hi hz0 hz1 hz2 rfl (by decide) _ _ _ rfl O2.out ⟨wr.heap.size, 0, none⟩ 1 1 [.string R] rfl rfl (cell_one_new _ _ _) (fun x hx => by simp at hx; subst hx; rfl) (by unfold maxLen; omega) (by omega) (by simp; omega) ?_; intro v2 w2 hO2 hg2 hat2))
   have HR : Hid (StrO w2 w.heap.size v2 (P ++ [R]) ∧ Below w.heap.size w w2) := by
    refine ⟨?_, (hB.alloc hsz _).grown hg2 (by simp; omega) (fun q hq => (World.ownsRow.lt hO q hq).1)⟩; unfold StrO; rw [List.map_append, List.length_append]; exact hO2
   clear hO2 hg2 hat2 O2 hB hO; go_ret; exact ⟨v2, P ++ [R], rfl, HR.out.1, HR.out.2, by simp, by simp; omega, HM.out, HL.out⟩
theorem inumAt (a : Option Addr) (cap : Nat) (L : List ByteArray) (k : Int) (n : Nat) (w : World) (h : IsStr w a L) (hz : ∀ l ∈ L, l.size ≤ 4294967296) (hl : L.length ≤ 1048576) (hk : k = n) :
  Calls Try.prog 144 #[.slice a L.length cap, .int .i64 k] w fun e w' => e = .returned (.int .i64 (nA L n)) ∧ w = w' := by
 subst hk
 by_cases hn : n < L.length
 ·have HX := Lib.hid (nA_yes hn)
  rcases h with e | ⟨g, o, rfl, hc⟩
  ·rw [e] at hn; exact absurd hn (Nat.not_lt_zero _)
  have c0 := hc n hn; have zl := hz _ (getD_memS hn); clear hc hz
  have q0 : (0 : Int) ≤ (n : Int) := by omega
  have q1 : (n : Int) < (L.length : Int) := by omega
  have q2 : ¬ (L.length : Int) ≤ (n : Int) := by omega
  generalize L.getD n tE = A at *; go_enter Try.func144, Try.ntmps144; go_wp2_with fail; refine (iread A _ zl).mono ?_; rintro e w' ⟨rfl, rfl⟩; go_wp2_with fail; go_ret; exact ⟨jze HX.out.symm, rfl⟩
 ·have HX := Lib.hid (nA_no hn)
  have q1 : (L.length : Int) ≤ (n : Int) := by omega
  clear h hz; go_enter Try.func144, Try.ntmps144; go_wp2_with fail; go_ret; exact ⟨jze HX.out.symm, rfl⟩
theorem iheirsIn (a : Option Addr) (cap : Nat) (L : List ByteArray) (w : World) (h : IsStr w a L) (hz : ∀ l ∈ L, l.size ≤ 4294967296) (hl : L.length ≤ 1048576) :
  Calls Try.prog 170 #[.slice a L.length cap] w (OutI w (hA L)) := by
 have K0 := OwnI.new (Below.refl w.heap.size w)
 have B0 : Below w.heap.size w (w.alloc (.cells #[] 3)) := by go_grown
 have HI := Lib.hid h; have HZ := Lib.hid hz; clear h hz; go_enter Try.func170, Try.ntmps170; go_wp2_with fail
 go_loopw [3, 4] (fun v i wr => ∃ (k : Nat), 2 ≤ k ∧ k ≤ 2 + L.length ∧ i = .int .i64 (k : Int) ∧ OwnI wr w.heap.size v (hA (L.take k)) ∧ Below w.heap.size w wr) (fun _ i _ => (L.length + 2) - (intOf i).toNat)
 case atStart => exact ⟨2, Nat.le_refl _, by omega, rfl, by rw [hA_two]; exact K0, B0⟩
 case round =>
  clear K0 B0; obtain ⟨k, hk2, hk3, rfl, hO, hB⟩ := hrel
  by_cases hlt : k < L.length
  ·have HN := Lib.hid (hA_next hk2 hlt)
   have hll : (hA (L.take k)).length ≤ 1048576 := by rw [hA_len, List.length_take]; omega
   have CN := inumAt a cap L k k wr (str_below HI.out hB) HZ.out hl rfl; have HO := Lib.hid hO; have HB := Lib.hid hB; have HLL := Lib.hid hll
   have q1 : (k : Int) < (L.length : Int) := by omega
   obtain ⟨b, cp, hv, hI⟩ := hO.ints; generalize hA (L.take k) = Z at *; generalize nA L k = z at *; clear hO hB hll hI hv; go_wp2_with fail; refine CN.mono ?_; rintro e w' ⟨rfl, rfl⟩
   go_wp2_with (first | (at_builtin; refine wp_snoc rfl _ _ rfl rfl HO.out rfl rfl HLL.out (HB.out.size) ?_; intro v3 w3 Q3 G3 n3))
   have B3 : Below w.heap.size w w3 := below_gv HB.out G3 (fun q hq => HO.out.grow q hq); have HQ := Lib.hid Q3; clear Q3 G3 n3
   go_roundw
   case rel => exact ⟨k + 1, by omega, by omega, by go_num, by rw [HN.out]; exact HQ.out, B3⟩
   case measure => simp [intOf]; omega
  ·have HX : Hid (hA (L.take k) = hA L) := Lib.hid (hA_all (by omega))
   have q1 : ¬ (k : Int) < (L.length : Int) := by omega
   have HO := Lib.hid hO; clear hO; go_wp2_with fail; go_ret; exact ⟨_, rfl, by rw [← HX.out]; exact HO.out, hB⟩
theorem ipartAt (a : Option Addr) (cap : Nat) (L : List ByteArray) (k : Int) (n : Nat) (w : World) (h : IsStr w a L) (hz : ∀ l ∈ L, l.size ≤ 4294967296) (hl : L.length ≤ 1048576) (hk : k = n) :
  Calls Try.prog 169 #[.slice a L.length cap, .int .i64 k] w fun e w' => e = .returned (.agg #[.int .i64 (pA L n).1, .int .i64 (pA L n).2]) ∧ Below w.heap.size w w' := by
 subst hk
 by_cases hn : n < L.length
 ·rcases h with e | ⟨g, o, rfl, hc⟩
  ·rw [e] at hn; exact absurd hn (Nat.not_lt_zero _)
  have c0 := hc n hn; have zl := hz _ (getD_memS hn)
  have HX : Hid (frV (pok (L.getD n tE)) (pnum (L.getD n tE)) (pden (L.getD n tE)) = .tuple #[.agg #[.int .i64 (pA L n).1, .int .i64 (pA L n).2], .bool (pok (L.getD n tE))]) := Lib.hid (by
   cases e : pok (L.getD n tE) with
   | true => rw [pA_yes hn e]; rfl
   | false => rw [pA_bad e]; rfl)
  have hg := World.block_lt_of_cell? w _ c0; clear hc hz
  have q0 : (0 : Int) ≤ (n : Int) := by omega
  have q1 : (n : Int) < (L.length : Int) := by omega
  have q2 : ¬ (L.length : Int) ≤ (n : Int) := by omega
  generalize L.getD n tE = A at *; generalize pA L n = q at *; obtain ⟨x, y⟩ := q; dsimp only at HX ⊢; have k0 := c2_new w (.int .i64 0) (.int .i64 0) 58; go_enter Try.func169, Try.ntmps169; go_wp2_with fail; refine (iPar A _ zl).mono ?_; rintro e w1 ⟨rfl, hb⟩; rw [HX.out]; have hB1 : Below w.heap.size w w1 := jq2 (by go_grown) hb; have k1 := c2_below k0 hb; obtain ⟨d0, d1, f0, f1, hlt⟩ := k1; have KB := ((Blk.new w 58 #[.int .i64 0, .int .i64 0]).next hb).two (.int .i64 x) (.int .i64 y); have e0 := (KB.alloc (.cells #[.int .i64 x, .int .i64 y] 58)).cell 0; have e1 := (KB.alloc (.cells #[.int .i64 x, .int .i64 y] 58)).cell 1; simp only [List.getElem?_toArray, List.getElem?_cons_zero, List.getElem?_cons_succ] at e0 e1; clear hb k0 KB; go_wp2_with fail; refine bodyPost_ret (v := .agg #[.int .i64 x, .int .i64 y]) (by simp [results, Try.results169, go_sem, e0, e1]) rfl ⟨rfl, by go_grown⟩
 ·have HX : Hid ((pA L n).1 = 0 ∧ (pA L n).2 = 0) := Lib.hid (by rw [pA_no hn]; exact ⟨rfl, rfl⟩)
  have q1 : (L.length : Int) ≤ (n : Int) := by omega
  have k0 := c2_new w (.int .i64 0) (.int .i64 0) 58; clear h hz; go_enter Try.func169, Try.ntmps169; go_wp2_with fail; obtain ⟨d0, d1, f0, f1, hlt⟩ := k0; refine bodyPost_ret (v := .agg #[.int .i64 0, .int .i64 0]) (by simp [results, Try.results169, go_sem, d0, d1]) rfl ⟨by rw [HX.out.1, HX.out.2], by go_grown⟩
def nnB (z : Int) : Bool := decide (0 ≤ z)
def numL (L : List ByteArray) : List Int := L.map (rdS 1000000)
theorem num_next {L : List ByteArray} {k : Nat} (h : k < L.length) : numL (L.take (k + 1)) = numL (L.take k) ++ [rdS 1000000 (L.getD k tE)] := by
 unfold numL; rw [List.take_add_one, List.map_append, List.getD_eq_getElem?_getD, List.getElem?_eq_getElem h]; rfl
theorem num_all {L : List ByteArray} : numL (L.take L.length) = numL L := by rw [List.take_length]
theorem num_len (L : List ByteArray) : (numL L).length = L.length := by unfold numL; simp
theorem num_bad {L : List ByteArray} {k : Nat} (h : k < L.length) (hz : rdS 1000000 (L.getD k tE) < 0) : (numL L).all nnB = false := by
  cases c : (numL L).all nnB with
  | false => rfl
  | true =>
    have := List.all_eq_true.1 c (rdS 1000000 (L.getD k tE)) (by unfold numL; exact List.mem_map.2 ⟨_, getD_memS h, rfl⟩); unfold nnB at this; rw [decide_eq_true_eq] at this; omega
theorem num_good {L : List ByteArray} (h : ∀ j, j < L.length → 0 ≤ rdS 1000000 (L.getD j tE)) : (numL L).all nnB = true := by
 rw [List.all_eq_true]; intro z m; obtain ⟨l, hl, rfl⟩ := List.mem_map.1 m; obtain ⟨j, hj, rfl⟩ := List.mem_iff_getElem.1 hl; have := h j hj; rw [List.getD_eq_getElem?_getD, List.getElem?_eq_getElem hj] at this; unfold nnB; simpa using this
def OutNI (w : World) (L : List ByteArray) (e : Ending) (w' : World) : Prop := ∃ v, e = .returned (.tuple #[v, .bool ((numL L).all nnB)]) ∧ ((numL L).all nnB = true → OwnI w' w.heap.size v (numL L)) ∧ ((numL L).all nnB = false → v = .slice none 0 0) ∧ Below w.heap.size w w'
theorem outNI_no {w w' : World} {L : List ByteArray} (h : (numL L).all nnB = false) (hb : Below w.heap.size w w') : OutNI w L (.returned (.tuple #[.slice none 0 0, .bool false])) w' := ⟨_, by rw [h], fun c => (by rw [h] at c; cases c), fun _ => rfl, hb⟩
theorem outNI_yes {w w' : World} {L : List ByteArray} {v : Value} (h : (numL L).all nnB = true) (ho : OwnI w' w.heap.size v (numL L)) (hb : Below w.heap.size w w') : OutNI w L (.returned (.tuple #[v, .bool true])) w' := ⟨_, by rw [h], fun _ => ho, fun c => (by rw [h] at c; cases c), hb⟩
theorem snumbers (a : Option Addr) (cap : Nat) (L : List ByteArray) (w : World) (h : IsStr w a L) (hz : ∀ l ∈ L, l.size ≤ 4294967296) (hl : L.length ≤ 1048577) :
  Calls Try.prog 174 #[.slice a L.length cap] w (OutNI w L) := by
 have K0 := OwnI.new (Below.refl w.heap.size w)
 have B0 : Below w.heap.size w (w.alloc (.cells #[] 3)) := by go_grown
 have HI := Lib.hid h; have HZ := Lib.hid hz; clear h hz; go_enter Try.func174, Try.ntmps174; go_wp2_with fail
 go_loopw [4, 5] (fun v i wr => ∃ (k : Nat), k ≤ L.length ∧ i = .int .i64 (k : Int) ∧ OwnI wr w.heap.size v (numL (L.take k)) ∧ Hid (∀ j, j < k → 0 ≤ rdS 1000000 (L.getD j tE)) ∧ Below w.heap.size w wr) (fun _ i _ => L.length - (intOf i).toNat)
 case atStart => exact ⟨0, Nat.zero_le _, rfl, K0, fun j hj => absurd hj (Nat.not_lt_zero _), B0⟩
 case round =>
  clear K0 B0; obtain ⟨k, hk, rfl, hO, HG, hB⟩ := hrel
  by_cases hlt : k < L.length
  ·rcases HI.out with e | ⟨g, o_, rfl, hc⟩
   ·rw [e] at hlt; exact absurd hlt (Nat.not_lt_zero _)
   have c0 := (hB.cell (p := ⟨g, o_ + k, none⟩) (World.block_lt_of_cell? w _ (hc k hlt))).trans (hc k hlt); have CR := sread (L.getD k tE) wr (HZ.out _ (getD_memS hlt)); have HN := Lib.hid (num_next hlt); have hbad := num_bad hlt
   have hll : (numL (L.take k)).length ≤ 1048576 := by rw [num_len, List.length_take]; omega
   have HG2 : 0 ≤ rdS 1000000 (L.getD k tE) → ∀ j, j < k + 1 → 0 ≤ rdS 1000000 (L.getD j tE) := fun hp j hj => by
    by_cases e : j = k
    ·subst e; exact hp
    ·exact HG.out j (by omega)
   have HO := Lib.hid hO; have HB := Lib.hid hB; have HLL := Lib.hid hll
   have q0 : (0 : Int) ≤ (k : Int) := by omega
   have q1 : (k : Int) < (L.length : Int) := by omega
   obtain ⟨b, cp, hv, _⟩ := hO.ints; generalize numL (L.take k) = Z at *; generalize hzz : rdS 1000000 (L.getD k tE) = z at *; generalize L.getD k tE = A at *; clear hO hB hll hv hc hzz
   by_cases hz0 : z < 0
   ·have HX := Lib.hid (hbad hz0)
    clear hbad HG2; go_wp2_with fail; refine CR.mono ?_; rintro e w' ⟨rfl, rfl⟩; go_wp2_with fail
    go_returns
    exact outNI_no HX.out HB.out
   ·have HG3 := Lib.hid (HG2 (by omega))
    clear hbad HG2; go_wp2_with fail; refine CR.mono ?_; rintro e w' ⟨rfl, rfl⟩
    go_wp2_with (first | (at_builtin; refine wp_snoc rfl _ _ rfl rfl HO.out rfl rfl HLL.out (HB.out.size) ?_; intro v3 w3 Q3 G3 n3))
    have B3 : Below w.heap.size w w3 := below_gv HB.out G3 (fun q hq => HO.out.grow q hq); have HQ := Lib.hid Q3; clear Q3 G3 n3
    go_roundw
    case rel => exact ⟨k + 1, by omega, by go_num, by rw [HN.out]; exact HQ.out, HG3, B3⟩
    case measure => simp [intOf]; omega
  ·obtain rfl : k = L.length := by omega
   have HX := Lib.hid (num_good HG.out); have HO := Lib.hid (show OwnI wr w.heap.size _ (numL L) by rw [← num_all]; exact hO); clear hO; go_wp2_with fail
   go_returns
   exact outNI_yes HX.out HO.out hB
def OutRM (w : World) (o : Option Ev) (e : Ending) (w' : World) : Prop := ∃ (A : Option Addr) (cz : Nat) (x : Ev), (o = none ∨ o = some x) ∧ e = .returned (.tuple #[.agg #[.int .i64 x.k, .int .i64 x.dd.k, .int .i64 x.dd.o, .int .i64 x.dd.t, .int .i64 x.dd.n, .int .i64 x.dd.d, .slice A x.dd.zs.length cz, .int .i64 x.at_, .int .i64 x.nu], .bool o.isSome]) ∧ jqf w' A x.dd.zs ∧ (∀ g o s, A = some ⟨g, o, s⟩ → w.heap.size ≤ g) ∧ x.dd.zs.length ≤ cz ∧ x.dd.zs.length ≤ 1048576 ∧ Below w.heap.size w w'
theorem jv3 {w w' : World} (h : Below w.heap.size w w') : OutRM w none (.returned (.tuple #[.agg #[.int .i64 0, .int .i64 0, .int .i64 0, .int .i64 0, .int .i64 0, .int .i64 0, .slice none 0 0, .int .i64 0, .int .i64 0], .bool false])) w' := ⟨none, 0, ev0, .inl rfl, rfl, .inl rfl, fun _ _ _ h => (by cases h), Nat.le_refl _, by decide, h⟩
theorem outRM_flat {w w' : World} {k at_ nu : Int} {x : Dd} (h : Below w.heap.size w w') (hx : x.zs = []) : OutRM w (some ⟨k, x, at_, nu⟩) (.returned (.tuple #[.agg #[.int .i64 k, .int .i64 x.k, .int .i64 x.o, .int .i64 x.t, .int .i64 x.n, .int .i64 x.d, .slice none 0 0, .int .i64 at_, .int .i64 nu], .bool true])) w' := ⟨none, 0, ⟨k, x, at_, nu⟩, .inr rfl, by dsimp only; rw [hx]; rfl, .inl hx, fun _ _ _ h => (by cases h), by dsimp only; rw [hx]; exact Nat.le_refl _, by dsimp only; rw [hx]; decide, h⟩
theorem outRM_sell {w w' : World} {n1 n2 x y : Int} {ok : Bool} {o : Option Ev} (h : o = if ok = true then some ⟨0, ⟨0, n1, n2, x, y, []⟩, 0, 0⟩ else none) (hb : Below w.heap.size w w') : OutRM w o (.returned (.tuple #[.agg #[.int .i64 0, .int .i64 0, .int .i64 n1, .int .i64 n2, .int .i64 x, .int .i64 y, .slice none 0 0, .int .i64 0, .int .i64 0], .bool ok])) w' := by
 subst h
 cases ok with
 | true => exact outRM_flat (x := ⟨0, n1, n2, x, y, []⟩) hb rfl
 | false => exact ⟨none, 0, ⟨0, ⟨0, n1, n2, x, y, []⟩, 0, 0⟩, .inl rfl, rfl, .inl rfl, fun _ _ _ h => (by cases h), Nat.le_refl _, by simp, hb⟩
theorem sreadSell (a : Option Addr) (cap : Nat) (L : List ByteArray) (w : World) (h : IsStr w a L) (hz : ∀ l ∈ L, l.size ≤ 4294967296) (hk : kw L = jzc) :
  Calls Try.prog 173 #[.slice a L.length cap] w (OutRM w (rdM L)) := by
 have B := (Below.refl w.heap.size w).alloc (Nat.le_refl _) (.cells #[.int .i64 0, .int .i64 0, .int .i64 0, .int .i64 0, .int .i64 0, .int .i64 0, .slice none 0 0, .int .i64 0, .int .i64 0] 63); have K := Blk.new w 63 #[.int .i64 0, .int .i64 0, .int .i64 0, .int .i64 0, .int .i64 0, .int .i64 0, .slice none 0 0, .int .i64 0, .int .i64 0]
 obtain ⟨U, hU⟩ : ∃ U, U = w.alloc (.cells #[.int .i64 0, .int .i64 0, .int .i64 0, .int .i64 0, .int .i64 0, .int .i64 0, .slice none 0 0, .int .i64 0, .int .i64 0] 63) := ⟨_, rfl⟩
 have hI := str_below h ((Below.refl w.heap.size w).alloc (Nat.le_refl _) (.cells #[.int .i64 0, .int .i64 0, .int .i64 0, .int .i64 0, .int .i64 0, .int .i64 0, .slice none 0 0, .int .i64 0, .int .i64 0] 63)); rw [← hU] at B K hI; have HU := Lib.hid hU; have KH := Lib.hid K; have HB := Lib.hid B; have hI0 := h; clear hU h
 by_cases h4 : L.length = 4
 case neg =>
  have HX : Hid (rdM L = none) := Lib.hid (by unfold rdM; rw [if_pos hk, if_neg (fun c => h4 c.1)])
  have n4 : ¬ (L.length : Int) = 4 := by omega
  have n4b : ((L.length : Int) != 4) = true := by simp; omega
  have n4d : decide ((L.length : Int) = 4) = false := decide_eq_false n4; clear hI hI0 hz hk h4; go_enter Try.func173, Try.ntmps173
  obtain ⟨y1, hy⟩ : ∃ Y_, Y_ = jzd U w.heap.size (.int .i64 0) (.int .i64 0) (.int .i64 0) (.int .i64 0) (.int .i64 0) (.int .i64 0) (.slice none 0 0) (.int .i64 0) (.int .i64 0) := ⟨_, rfl⟩
  have KF := jq7 (v0 := .int .i64 0) (v1 := .int .i64 0) (v2 := .int .i64 0) (v3 := .int .i64 0) (v4 := .int .i64 0) (v5 := .int .i64 0) (v6 := .slice none 0 0) (v7 := .int .i64 0) (v8 := .int .i64 0) KH.out; rw [← hy] at KF; obtain ⟨z0, z1, z2, z3, z4, z5, z6, z7, z8⟩ := jq4 KF; have BF := Lib.hid (show Below w.heap.size w y1 by subst hy; exact jqb HB.out (Nat.le_refl _)); have HY := Lib.hid hy; clear KF hy
  go_wp2_with (first | (show wpList _ _ _ _ _ (World.alloc _ _); rw [← HU.out]) | (show wpList _ _ _ ({ dst := _, op := Op.store _ _ _, type := _, pos := _, after := _, guard := _ } :: _) _ _; refine jq5 rfl _ _ _ rfl w.heap.size (.int .i64 0) (.int .i64 0) (.int .i64 0) (.int .i64 0) (.int .i64 0) (.int .i64 0) (.slice none 0 0) (.int .i64 0) (.int .i64 0) rfl rfl KH.out (by kernel_rfl) rfl ?_; rw [← HY.out]))
  refine bodyPost_ret (v := .tuple #[.agg #[.int .i64 0, .int .i64 0, .int .i64 0, .int .i64 0, .int .i64 0, .int .i64 0, .slice none 0 0, .int .i64 0, .int .i64 0], .bool false]) (by simp [results, Try.results173, go_sem, z0, z1, z2, z3, z4, z5, z6, z7, z8]) rfl (by rw [HX.out]; exact jv3 BF.out)
 obtain ⟨A, B1, B2, B3, rfl⟩ : ∃ A B1 B2 B3, L = [A, B1, B2, B3] := by
  match L, h4 with
  | [A, B1, B2, B3], _ => exact ⟨A, B1, B2, B3, rfl⟩
 rcases hI0 with e | ⟨g, o_, rfl, hc0⟩
 ·cases e
 have hgw : g ≠ w.heap.size := by have := World.block_lt_of_cell? w _ (hc0 0 (by simp)); show g ≠ _; have h2 : g < w.heap.size := this; omega
 have hc : ∀ i, i < [A, B1, B2, B3].length → U.cell? ⟨g, o_ + i, none⟩ = some (.string ([A, B1, B2, B3].getD i tE)) := fun i hi => by
  rcases hI with e | ⟨g', o', e, h'⟩
  ·cases e
  ·injection e with e; injection e with e1 e2; subst e1 e2; exact h' i hi
 have c1 : U.cell? ⟨g, o_ + 1, none⟩ = some (.string B1) := hc 1 (by simp); have c2 : U.cell? ⟨g, o_ + 2, none⟩ = some (.string B2) := hc 2 (by simp); have c3 : U.cell? ⟨g, o_ + 3, none⟩ = some (.string B3) := hc 3 (by simp); have z1 := hz B1 (by simp); have z2 := hz B2 (by simp); have z3 := hz B3 (by simp); have lt1 := World.block_lt_of_cell? U _ c1
 have HX : Hid (rdM [A, B1, B2, B3] = if pok B3 = true then some ⟨0, ⟨0, rdS 1000000 B1, rdS 1000000 B2, pnum B3, pden B3, []⟩, 0, 0⟩ else none) := Lib.hid (by
  unfold rdM; rw [if_pos hk]
  by_cases e : pok B3 = true
  ·rw [if_pos ⟨rfl, e⟩, if_pos e]; rfl
  ·rw [if_neg (fun c => e c.2), if_neg e])
 have CF := sparse B3 U z3; clear hc hc0 hz hk h4
 have CN := fun W => sread B1 W z1
 have CM := fun W => sread B2 W z2
 have hgU : g < U.heap.size := lt1; have HGW := Lib.hid hgw; generalize rdS 1000000 B1 = n1 at *; generalize rdS 1000000 B2 = n2 at *; clear z1 z2 z3
 obtain ⟨x, y, ok, hV, hok⟩ : ∃ x y ok, frV (pok B3) (pnum B3) (pden B3) = .tuple #[.agg #[.int .i64 x, .int .i64 y], .bool ok] ∧ (if pok B3 = true then some (⟨0, ⟨0, n1, n2, pnum B3, pden B3, []⟩, 0, 0⟩ : Ev) else none) = (if ok = true then some ⟨0, ⟨0, n1, n2, x, y, []⟩, 0, 0⟩ else none) := by
  cases pok B3 with
  | true => exact ⟨_, _, true, rfl, rfl⟩
  | false => exact ⟨0, 0, false, rfl, rfl⟩
 rw [hV] at CF; rw [hok] at HX; clear hV hok; go_enter Try.func173, Try.ntmps173
 go_wp2_with (first | (show wpList _ _ _ _ _ (World.alloc _ _); rw [← HU.out]))
 refine CF.mono ?_; rintro e U2 ⟨rfl, C⟩; replace c1 := (C.cell (p := ⟨g, o_ + 1, none⟩) hgU).trans c1; replace c2 := (C.cell (p := ⟨g, o_ + 2, none⟩) hgU).trans c2; have K2 := KH.out.next C; have B2_ := jq2 HB.out C; have hg2 : g < U2.heap.size := Nat.lt_of_lt_of_le hgU C.size; have hw2 : w.heap.size < U2.heap.size := K2.lt; have hgw : g ≠ w.heap.size := HGW.out; have D2 : Below U2.heap.size U2 (U2.alloc (.cells #[.int .i64 x, .int .i64 y] 58)) := (Below.refl _ _).alloc (Nat.le_refl _) _; have KF2 := Blk.new U2 58 #[.int .i64 x, .int .i64 y]
 obtain ⟨U3, hU3⟩ : ∃ U3, U3 = U2.alloc (.cells #[.int .i64 x, .int .i64 y] 58) := ⟨_, rfl⟩
 rw [← hU3] at D2 KF2; have HU3 := Lib.hid hU3; replace c1 := (D2.cell (p := ⟨g, o_ + 1, none⟩) hg2).trans c1; replace c2 := (D2.cell (p := ⟨g, o_ + 2, none⟩) hg2).trans c2; have KH3 : Hid (Blk U3.drew w.heap.size 63 #[.int .i64 0, .int .i64 0, .int .i64 0, .int .i64 0, .int .i64 0, .int .i64 0, .slice none 0 0, .int .i64 0, .int .i64 0]) := Lib.hid (K2.next D2).drew; have HB3 : Hid (Below w.heap.size w U3.drew) := Lib.hid (jq2 B2_ D2).drew; have e0 := KF2.cell 0; have e1 := KF2.cell 1; simp only [List.getElem?_toArray, List.getElem?_cons_zero, List.getElem?_cons_succ] at e0 e1; clear C hgU KH HB K2 B2_ hg2 D2 KF2 hU3 CF HU; generalize hp2 : U2.heap.size = p2 at *; go_wp2_with fail; rw [← HU3.out]
 obtain ⟨y1, hy⟩ : ∃ Y_, Y_ = jzd U3.drew w.heap.size (.int .i64 0) (.int .i64 0) (.int .i64 n1) (.int .i64 n2) (.int .i64 x) (.int .i64 y) (.slice none 0 0) (.int .i64 0) (.int .i64 0) := ⟨_, rfl⟩
 have KF := jq7 (v0 := .int .i64 0) (v1 := .int .i64 0) (v2 := .int .i64 n1) (v3 := .int .i64 n2) (v4 := .int .i64 x) (v5 := .int .i64 y) (v6 := .slice none 0 0) (v7 := .int .i64 0) (v8 := .int .i64 0) KH3.out; rw [← hy] at KF; obtain ⟨z0, z1, z2, z3, z4, z5, z6, z7, z8⟩ := jq4 KF; obtain ⟨q0, q1, q2, q3, q4, q5, q6, q7, q8⟩ := jq4 KH3.out; obtain ⟨ff0, ff1, ff2, ff3, ff4, ff5, ff6, ff7, ff8⟩ := fzs9 KH3.out; have BF := Lib.hid (show Below w.heap.size w y1 by subst hy; exact jqb HB3.out (Nat.le_refl _))
 have far : ∀ (b l : Nat) (v : Value), b ≠ w.heap.size → U3.drew.cell? ⟨b, l, none⟩ = some v → y1.cell? ⟨b, l, none⟩ = some v := fun b l v hb h => by
  have hq : ∀ (V : World) (i : Nat) (z : Value), (V.setCell ⟨w.heap.size, i, none⟩ z).cell? ⟨b, l, none⟩ = V.cell? ⟨b, l, none⟩ := fun V i z => World.cell?_setCell_other V _ _ z (fun e => by injection e with e; omega)
  subst hy; unfold jzd; rw [hq, hq, hq, hq, hq, hq, hq, hq, hq]; exact h
 have HSY : Hid (y1.cell? ⟨g, o_ + 1, none⟩ = some (.string B1) ∧ y1.cell? ⟨g, o_ + 2, none⟩ = some (.string B2) ∧ y1.cell? ⟨p2, 0, none⟩ = some (.int .i64 x) ∧ y1.cell? ⟨p2, 1, none⟩ = some (.int .i64 y)) := Lib.hid ⟨far _ _ _ (by omega) c1, far _ _ _ (by omega) c2, far _ _ _ (by omega) e0, far _ _ _ (by omega) e1⟩; have HY := Lib.hid hy; clear KF hy far; refine wp_region_held_drew (S := (fun w' => w'.cell? ⟨g, o_ + 1, none⟩ = some (.string B1) ∧ w'.cell? ⟨g, o_ + 2, none⟩ = some (.string B2) ∧ w'.cell? ⟨p2, 0, none⟩ = some (.int .i64 x) ∧ w'.cell? ⟨p2, 1, none⟩ = some (.int .i64 y))) (by kernel_rfl) ?_ (fun hHeld => ?_)
 ·exact ⟨c1, c2, e0, e1⟩
 generalize U3.drew = U4 at *; refine tk (i := 0) (v := ?v34) rfl ?c34 ?d_34
 case c34 => (refine .inl ⟨by rfl, ?_⟩; intro w h; (try dsimp only at h); go_simp <;> with_reducible rfl)
 try simp only [pt]
 refine tk (i := 1) (v := ?v35) rfl ?c35 ?d_35
 case c35 => (refine .inl ⟨by rfl, ?_⟩; intro w h; (try dsimp only at h); go_simp <;> with_reducible rfl)
 try simp only [pt]
 refine tk (i := 2) (v := ?v36) rfl ?c36 ?d_36
 case c36 => (refine .inl ⟨by rfl, ?_⟩; intro w h; (try dsimp only at h); go_simp <;> with_reducible rfl)
 try simp only [pt]
 refine tk (i := 4) (v := ?v37) rfl ?c37 ?d_37
 case c37 => (refine .inl ⟨by rfl, ?_⟩; intro w h; (try dsimp only at h); go_simp <;> with_reducible rfl)
 try simp only [pt]
 refine tk (i := 5) (v := ?v38) rfl ?c38 ?d_38
 case c38 => (refine .inl ⟨by rfl, ?_⟩; intro w h; (try dsimp only at h); go_simp <;> with_reducible rfl)
 try simp only [pt]
 refine tk (i := 6) (v := ?v39) rfl ?c39 ?d_39
 case c39 => (refine .inl ⟨by rfl, ?_⟩; intro w h; (try dsimp only at h); go_simp <;> with_reducible rfl)
 try simp only [pt]
 refine tk (i := 8) (v := ?v3a) rfl ?c3a ?d_3a
 case c3a => (refine .inl ⟨by rfl, ?_⟩; intro w h; (try dsimp only at h); go_simp <;> with_reducible rfl)
 try simp only [pt]
 refine tk (i := 11) (v := ?v3b) rfl ?c3b ?d_3b
 case c3b => (refine .inl ⟨by rfl, ?_⟩; intro w h; (try dsimp only at h); go_simp <;> with_reducible rfl)
 try simp only [pt]
 refine wpAnyH_ready (rs := [3]) (by kernel_rfl) (by simp) (AllReadyH.cons (o := ?ooa3) ?hia3 (fun K hK => ?hka3) AllReadyH.nil)
 rotate_left
 case hia3 => (simp only [List.getElem?_toArray, List.getElem?_cons_succ, List.getElem?_cons_zero]; rfl)
 (rw [if_pos (by rfl)]; go_simp; refine (CN _).mono ?_; rintro e w3 ⟨rfl, rfl⟩; go_wp2_with fail; refine hK.out _ _ (hHeld) (fun hHeld => ?_); clear hK K)
 try simp only [pt]
 refine wpAnyH_ready (rs := [7]) (by kernel_rfl) (by simp) (AllReadyH.cons (o := ?ooa7) ?hia7 (fun K hK => ?hka7) AllReadyH.nil)
 rotate_left
 case hia7 => (simp only [List.getElem?_toArray, List.getElem?_cons_succ, List.getElem?_cons_zero]; rfl)
 (rw [if_pos (by rfl)]; go_simp; refine (CM _).mono ?_; rintro e w3 ⟨rfl, rfl⟩; go_wp2_with fail; refine hK.out _ _ (hHeld) (fun hHeld => ?_); clear hK K)
 try simp only [pt]
 refine tk (i := 9) (v := ?v3c) rfl ?c3c ?d_3c
 case c3c => (refine .inl ⟨by rfl, ?_⟩; intro w h; (try dsimp only at h); go_simp <;> with_reducible rfl)
 try simp only [pt]
 refine tk (i := 10) (v := ?v3d) rfl ?c3d ?d_3d
 case c3d => (refine .inl ⟨by rfl, ?_⟩; intro w h; (try dsimp only at h); go_simp <;> with_reducible rfl)
 try simp only [pt]
 refine wpAnyH_ready (rs := [12]) (by kernel_rfl) (by simp) (AllReadyH.cons (o := ?ooa12) ?hia12 (fun K hK => ?hka12) AllReadyH.nil)
 rotate_left
 case hia12 => (simp only [List.getElem?_toArray, List.getElem?_cons_succ, List.getElem?_cons_zero]; rfl)
 (rw [if_pos (by rfl)]; go_simp; change K _ (jzd _ _ _ _ _ _ _ _ _ _ _); rw [← HY.out]; refine hK.out _ _ (HSY.out) (fun hHeld => ?_); clear hK K)
 try simp only [pt]
 refine tk (i := 13) (v := ?v3e) rfl ?c3e ?d_3e
 case c3e => (refine .inl ⟨by rfl, ?_⟩; intro w h; (try dsimp only at h); go_simp <;> with_reducible rfl)
 try simp only [pt]
 refine wpAnyH_done (by kernel_rfl) ?_ _; clear q0 q1 q2 q3 q4 q5 q6 q7 q8 ff0 ff1 ff2 ff3 ff4 ff5 ff6 ff7 ff8 c1 c2 e0 e1 HSY; go_wp2_with fail; refine bodyPost_ret (v := .tuple #[.agg #[.int .i64 0, .int .i64 0, .int .i64 n1, .int .i64 n2, .int .i64 x, .int .i64 y, .slice none 0 0, .int .i64 0, .int .i64 0], .bool ok]) (by simp [results, Try.results173, go_sem, z0, z1, z2, z3, z4, z5, z6, z7, z8]) rfl (outRM_sell HX.out BF.out)
theorem eqInts (a b : Option Addr) (ca cb : Nat) (zs : List Int) (w : World) (ha : jqf w a zs) (hb : jqf w b zs) (hn : zs.length ≤ 1048576) :
  Calls Try.prog 47 #[.slice a zs.length ca, .slice b zs.length cb] w fun e w' => e = .returned (.bool true) ∧ Below w.heap.size w w' := by
 rcases ha with rfl | ⟨g, o, rfl, hc⟩
 ·go_enter Try.func47, Try.ntmps47
  go_wp2
  go_rounds 1
  go_ret; exact ⟨rfl, by go_grown⟩
 ·rcases hb with rfl | ⟨g2, o2, rfl, hc2⟩
  ·go_enter Try.func47, Try.ntmps47
   go_wp2
   go_rounds 1
   go_ret; exact ⟨rfl, by go_grown⟩
  ·have HC := Lib.hid hc
   have HD := Lib.hid hc2; clear hc hc2; go_enter Try.func47, Try.ntmps47
   go_wp2
   go_loopw [5] (fun i wr => ∃ k : Nat, k ≤ zs.length ∧ i = .int .i64 k ∧ Below w.heap.size w wr) (fun i _ => zs.length - (intOf i).toNat)
   case atStart => exact ⟨0, Nat.zero_le _, rfl, by go_grown⟩
   case round =>
    obtain ⟨k, hk, rfl, hB⟩ := hrel
    by_cases hlt : k < zs.length
    ·have hc := (hB.cell (p := ⟨g, o + k, none⟩) (World.block_lt_of_cell? w _ (HC.out k hlt))).trans (HC.out k hlt)
     have hd := (hB.cell (p := ⟨g2, o2 + k, none⟩) (World.block_lt_of_cell? w _ (HD.out k hlt))).trans (HD.out k hlt); generalize zs.getD k 0 = z at hc hd
     have i0 : (0 : Int) ≤ (k : Int) := by omega
     have i1 : (k : Int) < (zs.length : Int) := by omega
     go_wp2_with fail
     go_quiet (fail)
     go_wp2
     go_roundw
     case rel => exact ⟨k + 1, by omega, by go_num, jqc hB _⟩
     case measure => simp [intOf]; omega
    ·go_wp2
     go_ret; exact ⟨rfl, by go_grown⟩
theorem eqEvL (A1 A2 : Option Addr) (p1 p2 : Nat) (x : Ev) (w : World) (h1 : jqf w A1 x.dd.zs) (h2 : jqf w A2 x.dd.zs) (hn : x.dd.zs.length ≤ 1048576) :
  Calls Try.prog 38 #[.agg #[.int .i64 x.k, .int .i64 x.dd.k, .int .i64 x.dd.o, .int .i64 x.dd.t, .int .i64 x.dd.n, .int .i64 x.dd.d, .slice A1 x.dd.zs.length p1, .int .i64 x.at_, .int .i64 x.nu], .agg #[.int .i64 x.k, .int .i64 x.dd.k, .int .i64 x.dd.o, .int .i64 x.dd.t, .int .i64 x.dd.n, .int .i64 x.dd.d, .slice A2 x.dd.zs.length p2, .int .i64 x.at_, .int .i64 x.nu]] w fun e w' => e = .returned (.bool true) ∧ Below w.heap.size w w' := by
 obtain ⟨k, ⟨dk, o, t, n, d, zs⟩, at_, nu⟩ := x; dsimp only at h1 h2 hn ⊢; have CC := Lib.hid (fun W (hW : Below w.heap.size w W) => eqInts A1 A2 p1 p2 zs W (jq9 h1 hW) (jq9 h2 hW) hn); clear h1 h2; have K1 := (Blk.new w 63 #[.int .i64 k, .int .i64 dk, .int .i64 o, .int .i64 t, .int .i64 n, .int .i64 d, .slice A1 zs.length p1, .int .i64 at_, .int .i64 nu]).alloc (.cells #[.int .i64 k, .int .i64 dk, .int .i64 o, .int .i64 t, .int .i64 n, .int .i64 d, .slice A2 zs.length p2, .int .i64 at_, .int .i64 nu] 63); have K2 := Blk.new (w.alloc (.cells #[.int .i64 k, .int .i64 dk, .int .i64 o, .int .i64 t, .int .i64 n, .int .i64 d, .slice A1 zs.length p1, .int .i64 at_, .int .i64 nu] 63)) 63 #[.int .i64 k, .int .i64 dk, .int .i64 o, .int .i64 t, .int .i64 n, .int .i64 d, .slice A2 zs.length p2, .int .i64 at_, .int .i64 nu]; rw [World.size_alloc] at K2
 have B : Below w.heap.size w ((w.alloc (.cells #[.int .i64 k, .int .i64 dk, .int .i64 o, .int .i64 t, .int .i64 n, .int .i64 d, .slice A1 zs.length p1, .int .i64 at_, .int .i64 nu] 63)).alloc (.cells #[.int .i64 k, .int .i64 dk, .int .i64 o, .int .i64 t, .int .i64 n, .int .i64 d, .slice A2 zs.length p2, .int .i64 at_, .int .i64 nu] 63)) := by go_grown
 obtain ⟨q0, q1, q2, q3, q4, q5, q6, q7, q8⟩ := jq4 K1; obtain ⟨r0, r1, r2, r3, r4, r5, r6, r7, r8⟩ := jq4 K2
 have b0 : (k == k) = true := by simp
 have b1 : (at_ == at_) = true := by simp
 have b2 : (nu == nu) = true := by simp
 have b3 : (dk == dk) = true := by simp
 have b4 : (o == o) = true := by simp
 have b5 : (t == t) = true := by simp
 have b6 : (n == n) = true := by simp
 have b7 : (d == d) = true := by simp
 go_enter Try.func38, Try.ntmps38; go_wp2_with fail; refine (CC.out _ B).mono ?_; rintro e u1 ⟨rfl, C⟩; replace B := jq2 B C; go_wp2_with fail; go_ret; exact ⟨rfl, B⟩
end Go.Proofs.Ytaehemmjemhgpaa
