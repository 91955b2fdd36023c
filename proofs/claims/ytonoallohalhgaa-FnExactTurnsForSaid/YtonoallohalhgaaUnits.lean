/- The units of a ledger, by impl and spec. Condition: at most 1048576 holdings. -/
import Derived.Test.YtonoallohalhgaaCden
import Derived.Test.YtonoallohalhgaaOwnInts
import Derived.Test.YtonoallohalhgaaReads
import Derived.Deep.RegionHeld3
import Derived.Deep.DeepCutAuto
import Derived.Maps.AppendAt
namespace Go.Proofs.Ytonoallohalhgaa
open Go.RowKit

def unR (hs : List Hd) : List Int := hs.map fun h => (lcmTo (ledOf hs) hs.length : Int) / h.2.2 * h.2.1
/-- the units, none where there is no common denominator -/
def usR (hs : List Hd) : List Int := if cdR hs = -1 then [] else unR hs
theorem un_len (hs : List Hd) : (unR hs).length = hs.length := by unfold unR; simp
theorem un_get (hs : List Hd) {k : Nat} (h : k < hs.length) : (unR hs).getD k 0 = (lcmTo (ledOf hs) hs.length : Int) / (hs.getD k hd0).2.2 * (hs.getD k hd0).2.1 := by
  unfold unR
  rw [List.getD_eq_getElem?_getD, List.getElem?_map, getD_lt hs h, List.getElem?_eq_getElem h]; rfl
theorem cd_pos {hs : List Hd} (h : cdR hs ≠ -1) : vlR hs = true ∧ lcmTo (ledOf hs) hs.length ≤ 1000000 ∧ cdR hs = (lcmTo (ledOf hs) hs.length : Int) := by
  unfold cdR at h ⊢
  by_cases c : (vlR hs && decide (lcmTo (ledOf hs) hs.length ≤ 1000000)) = true
  · rw [if_pos c]
    simp only [Bool.and_eq_true, decide_eq_true_eq] at c
    exact ⟨c.1, c.2, rfl⟩
  · rw [if_neg c] at h; exact absurd rfl h
/-- bounds of a unit -/
theorem un_bd {hs : List Hd} (h : vlR hs = true) (h2 : lcmTo (ledOf hs) hs.length ≤ 1000000) {k : Nat} (hk : k < hs.length) : 1 ≤ (hs.getD k hd0).2.2 ∧ 0 ≤ (hs.getD k hd0).2.1 ∧ 0 ≤ (lcmTo (ledOf hs) hs.length : Int) / (hs.getD k hd0).2.2 ∧ (lcmTo (ledOf hs) hs.length : Int) / (hs.getD k hd0).2.2 ≤ 1000000 ∧ 0 ≤ (lcmTo (ledOf hs) hs.length : Int) / (hs.getD k hd0).2.2 * (hs.getD k hd0).2.1 ∧ (lcmTo (ledOf hs) hs.length : Int) / (hs.getD k hd0).2.2 * (hs.getD k hd0).2.1 ≤ 10000000000 := by
  have hs1 : allS hs = true := by unfold vlR at h; simp only [Bool.and_eq_true, decide_eq_true_eq] at h; exact h.1.2
  unfold allS at hs1
  rw [rng_all] at hs1
  have := (Wsh.vfB_iff _ _).1 (okF_is (okS_is (hs1 k hk)).1).1
  have q0 : 0 ≤ (lcmTo (ledOf hs) hs.length : Int) / (hs.getD k hd0).2.2 := Int.ediv_nonneg (by omega) (by omega)
  have q1 : (lcmTo (ledOf hs) hs.length : Int) / (hs.getD k hd0).2.2 ≤ 1000000 := Int.le_trans (Int.ediv_le_self _ (by omega)) (by omega)
  exact ⟨this.1, this.2.2.1, q0, q1, Int.mul_nonneg q0 this.2.2.1, Int.le_trans (Int.mul_le_mul q1 (by omega : (hs.getD k hd0).2.1 ≤ 10000) this.2.2.1 (by omega)) (by decide)⟩

theorem iUnits_no (a : Option Addr) (cap : Nat) (hs : List Hd) (w : World) (h : IsHs w a hs) (hn : hs.length ≤ 1048576) (hcd : cdR hs = -1) :
    Calls Try.prog 25 #[.slice a hs.length cap] w fun e w' => e = .returned (.slice none 0 0) ∧ Below w.heap.size w w' := by
  have CV := iCD a cap hs w h hn
  rw [hcd] at CV
  clear hcd
  go_enter Try.func25, Try.ntmps25
  go_wp2_with fail
  refine CV.mono ?_
  rintro e w1 ⟨rfl, hb⟩
  go_wp2_with fail
  go_ret
  exact ⟨rfl, hb⟩
/-- what impl.UnitsOf leaves -/
def UnitsI (w : World) (hs : List Hd) (e : Ending) (w' : World) : Prop := ∃ g : Nat, e = .returned (.slice (some ⟨g, 0, none⟩) hs.length hs.length) ∧ w.heap.size ≤ g ∧ Row w' g (unR hs) ∧ Below w.heap.size w w'
set_option maxHeartbeats 2000000 in
theorem iUnits (a : Option Addr) (cap : Nat) (hs : List Hd) (w : World) (h : IsHs w a hs) (hn : hs.length ≤ 1048576) (hcd : cdR hs ≠ -1) :
    Calls Try.prog 25 #[.slice a hs.length cap] w (UnitsI w hs) := by
  obtain ⟨hv, hl, hce⟩ := cd_pos hcd
  have CV := iCD a cap hs w h hn
  rw [hce] at CV
  have hmk := run_make_row' (P := Try.prog) 46 3 (.int .i64 0) 8 Try.underlying46 infoInt rfl .i64 .i64 hs.length (by omega) (by omega)
  have HV := Lib.hid hv
  have HL := Lib.hid hl
  rcases h with rfl | ⟨g, off, rfl, hc⟩
  · exact absurd (vlR_is hv).2.one (by decide)
  · have HC := Lib.hid hc
    have cm0 : (0 : Int) ≤ (lcmTo (ledOf hs) hs.length : Int) := by omega
    have cm1 : (lcmTo (ledOf hs) hs.length : Int) ≤ 1000000 := by omega
    obtain ⟨cm, hcm⟩ : ∃ cm, cm = (lcmTo (ledOf hs) hs.length : Int) := ⟨_, rfl⟩
    rw [← hcm] at CV cm0 cm1
    have HCM := Lib.hid hcm
    clear hc hv hl hce hcd hcm
    go_enter Try.func25, Try.ntmps25
    go_wp2_with fail
    refine CV.mono ?_
    rintro e w1 ⟨rfl, hb⟩
    have HB1 := Lib.hid hb
    have hsz := hb.size
    clear hb CV
    go_wp2_with fail
    clear hmk
    obtain ⟨G, hG⟩ : ∃ G, G = w1.heap.size := ⟨_, rfl⟩
    rw [← hG]
    have hGw : w.heap.size ≤ G := by omega
    have hr0 : (w1.alloc (.cells (madeCells #[.int .i64 0] hs.length) 3)).rowIs G 3 hs.length (fun j => if j < 0 then .int .i64 ((unR hs).getD j 0) else .int .i64 0) := by
      rw [hG]; exact (World.rowIs_made w1 (.int .i64 0) hs.length _).congr (fun i hi => by simp)
    have hB0 := HB1.out.alloc HB1.out.size (.cells (madeCells #[.int .i64 0] hs.length) 3)
    clear hG
    go_loopw [16] (fun i wr => ∃ k : Nat, k ≤ hs.length ∧ i = .int .i64 k ∧ wr.rowIs G 3 hs.length (fun j => if j < k then .int .i64 ((unR hs).getD j 0) else .int .i64 0) ∧ Below w.heap.size w wr) (fun i _ => hs.length - (intOf i).toNat)
    case atStart => exact ⟨0, Nat.zero_le _, rfl, hr0, hB0⟩
    case round =>
      clear hr0 hB0
      obtain ⟨k, hk, rfl, hrow, hB⟩ := hrel
      by_cases hlt : k < hs.length
      · obtain ⟨c0, c1, c2⟩ := cells_at HC.out hB hlt
        obtain ⟨b0, b1, b2, b3, b4, b5⟩ := un_bd HV.out HL.out hlt
        have hg := un_get hs hlt
        rw [← HCM.out] at b2 b3 b4 b5 hg
        have hd : wr.cell? ⟨G, k, none⟩ = some (.int .i64 0) := by rw [hrow.cell hlt, if_neg (Nat.lt_irrefl k)]
        have hf := hrow.frozen k
        have hGl := World.rowIs.lt hrow
        have hcon : ∀ z : Int, (unR hs).getD k 0 = z → (wr.setCell ⟨G, k, none⟩ (.int .i64 z)).rowIs G 3 hs.length (fun j => if j < k + 1 then .int .i64 ((unR hs).getD j 0) else .int .i64 0) := fun z hz =>
          (hrow.set k (.int .i64 z)).congr (fun j hj => by
            show (if j = k then Value.int .i64 z else if j < k then .int .i64 ((unR hs).getD j 0) else .int .i64 0) = _
            by_cases hjk : j = k
            · subst hjk; rw [if_pos rfl, if_pos (by omega), hz]
            · rw [if_neg hjk]
              by_cases hl : j < k
              · rw [if_pos hl, if_pos (by omega)]
              · rw [if_neg hl, if_neg (by omega)])
        have hcon2 := hcon _ hg
        clear hcon
        generalize hs.getD k hd0 = hh at c0 c1 c2 b0 b1 b2 b3 b4 b5 hcon2
        obtain ⟨x, n, d⟩ := hh
        dsimp only at c0 c1 c2 b0 b1 b2 b3 b4 b5 hcon2
        have hd0' : (d == 0) = false := by simp; omega
        have hw : IntKind.i64.wrap (cm / d * n) = cm / d * n := IntWalk.i64_in _ (by omega)
        have i0 : (0 : Int) ≤ (k : Int) := by omega
        have i1 : (k : Int) < (hs.length : Int) := by omega
        have HR := Lib.hid hcon2
        have HB := Lib.hid hB
        clear hcon2 hrow hB hg
        go_wp2_with fail
        go_region
        all_goals (
          go_wp2_with fail
          go_roundw
          case rel => exact ⟨k + 1, by omega, by go_num, (HR.out.alloc _).drew, ((HB.out.setCell hGw _).alloc (by simpa using HB.out.size) _).drew⟩
          case measure => simp [intOf]; omega)
      · have HR := Lib.hid hrow
        have HB := Lib.hid hB
        clear hrow hB
        go_wp2_with fail
        go_ret
        refine ⟨_, rfl, hGw, ?_, HB.out⟩
        have e := un_len hs
        unfold Row
        rw [e]
        exact HR.out.congr (fun i hi => by rw [if_pos (by omega)])

theorem sUnits_no (a : Option Addr) (cap : Nat) (hs : List Hd) (w : World) (h : IsHs w a hs) (hn : hs.length ≤ 1048576) (hcd : cdR hs = -1) :
    Calls Try.prog 20 #[.slice a hs.length cap] w fun e w' => e = .returned (.slice none 0 0) ∧ Below w.heap.size w w' := by
  have CV := svl a cap hs w h hn
  have HI := Lib.hid h
  clear h
  cases hv : vlR hs with
  | false =>
    rw [hv] at CV
    clear hcd hv
    go_enter Try.func20, Try.ntmps20
    go_wp2_with fail
    refine CV.mono ?_
    rintro e w1 ⟨rfl, hb⟩
    go_wp2_with fail
    go_ret
    exact ⟨rfl, hb⟩
  | true =>
    rw [hv] at CV
    have HV := Lib.hid hv
    have HC := Lib.hid hcd
    clear hcd hv
    go_enter Try.func20, Try.ntmps20
    go_wp2_with fail
    refine CV.mono ?_
    rintro e w1 ⟨rfl, hb⟩
    go_wp2_with fail
    refine (scd a cap hs _ (hs_below HI.out hb) hn HV.out).mono ?_
    rintro e w2 ⟨v, rfl, e1, e2, q0, q2, hb2⟩
    have hbig : 1000000 < v := by
      rcases Int.lt_or_le 1000000 v with h | h
      · exact h
      · have := e1 h; rw [HC.out] at this; omega
    clear e1 e2
    go_wp2_with fail
    go_ret
    exact ⟨rfl, bel_tr hb hb2⟩
theorem keepU {w W : World} {g off k : Nat} {hs : List Hd} {x n d : Int} (hc : ∀ i, i < hs.length → w.cell? ⟨g, off + i * 3, none⟩ = some (.int .i64 (hs.getD i hd0).1) ∧ w.cell? ⟨g, off + i * 3 + 1, none⟩ = some (.int .i64 (hs.getD i hd0).2.1) ∧ w.cell? ⟨g, off + i * 3 + 2, none⟩ = some (.int .i64 (hs.getD i hd0).2.2)) (hk : k < hs.length) (hx : hs.getD k hd0 = (x, n, d)) (hB : Below w.heap.size w W) :
    W.cell? ⟨g, off + k * 3 + 1, none⟩ = some (.int .i64 n) ∧ W.cell? ⟨g, off + k * 3 + 2, none⟩ = some (.int .i64 d) ∧ Below w.heap.size w W := by
  obtain ⟨_, c1, c2⟩ := cells_at hc hB hk
  rw [hx] at c1 c2
  exact ⟨c1, c2, hB⟩
theorem take_mapI (l : List Int) (k : Nat) (h : k < l.length) : (l.take (k + 1)).map (Value.int .i64) = (l.take k).map (Value.int .i64) ++ [.int .i64 (l.getD k 0)] := by
  rw [List.take_succ_eq_append_getElem h, List.map_append, List.getD_eq_getElem?_getD, List.getElem?_eq_getElem h]; rfl
theorem new_reads (w : World) (u : Value) (t : TypeId) : Reads (w.alloc (.cells #[u] t)) (w.heap.size + 1) 1 (some ⟨w.heap.size, 0, none⟩) 1 [u] :=
  ⟨rfl, fun _ => ⟨_, rfl, Nat.lt_succ_self _, new_cells w [u] t⟩⟩
/-- what spec.UnitsOf leaves -/
def UnitsS (w : World) (hs : List Hd) (e : Ending) (w' : World) : Prop := ∃ v, e = .returned v ∧ w'.ownsRow w.heap.size 3 1 v hs.length ((unR hs).map (Value.int .i64)) ∧ Below w.heap.size w w'
set_option maxRecDepth 100000 in
set_option maxHeartbeats 4000000 in
theorem sUnits (a : Option Addr) (cap : Nat) (hs : List Hd) (w : World) (h : IsHs w a hs) (hn : hs.length ≤ 1048576) (hcd : cdR hs ≠ -1) :
    Calls Try.prog 20 #[.slice a hs.length cap] w (UnitsS w hs) := by
  obtain ⟨hv, hl, hce⟩ := cd_pos hcd
  have CV := svl a cap hs w h hn
  rw [hv] at CV
  have HI := Lib.hid h
  obtain ⟨i0, hi, hz0, hz1, hz2⟩ := info_parts infoInt
  have HV := Lib.hid hv
  have HL := Lib.hid hl
  rcases h with rfl | ⟨g, off, rfl, hc⟩
  · exact absurd (vlR_is hv).2.one (by decide)
  · have HC := Lib.hid hc
    have cm0 : (0 : Int) ≤ (lcmTo (ledOf hs) hs.length : Int) := by omega
    have cm1 : (lcmTo (ledOf hs) hs.length : Int) ≤ 1000000 := by omega
    obtain ⟨cm, hcm⟩ : ∃ cm, cm = (lcmTo (ledOf hs) hs.length : Int) := ⟨_, rfl⟩
    rw [← hcm] at hce cm0 cm1
    have HCM := Lib.hid hcm
    have HCE := Lib.hid hce
    have scm : ∀ (W : World), IsHs W (some ⟨g, off, none⟩) hs → Calls Try.prog 38 #[.slice (some ⟨g, off, none⟩) hs.length cap] W fun e w' => e = .returned (.int .i64 cm) ∧ Below W.heap.size W w' := fun W hW => (scd _ cap hs W hW hn hv).mono (by
      rintro e w2 ⟨v, rfl, e1, e2, q0, q2, hb2⟩
      rcases Int.lt_or_le 1000000 v with h | h
      · have := e2 h; rw [hce] at this; omega
      · have := e1 h; rw [hce] at this; rw [this]; exact ⟨rfl, hb2⟩)
    have SCM := Lib.hid scm
    clear hc hv hl hce hcd hcm scm
    go_enter Try.func20, Try.ntmps20
    go_wp2_with fail
    refine CV.mono ?_
    rintro e w1 ⟨rfl, hb⟩
    clear CV
    go_wp2_with fail
    refine (SCM.out _ (hs_below HI.out hb)).mono ?_
    rintro e w2 ⟨rfl, hb2⟩
    have hB2 := bel_tr hb hb2
    clear hb hb2
    go_wp2_with fail
    have hB2a := hB2.alloc hB2.size (.cells #[] 3)
    refine (SCM.out _ (hs_below HI.out hB2a)).mono ?_
    rintro e w3 ⟨rfl, hb3⟩
    have hB3 := bel_tr hB2a hb3
    have hblk := (Blk.new w2 3 #[]).next hb3
    have hown0 : w3.ownsRow w.heap.size 3 1 (.slice (some ⟨w2.heap.size, 0, none⟩) 0 0) 0 (((unR hs).take 0).map (Value.int .i64)) := ⟨by simp, .inr ⟨w2.heap.size, 0, #[], rfl, hB2.size, hblk, Nat.le_refl _, by unfold maxLen; omega, rfl, rfl⟩⟩
    clear hb3 hblk hB2a
    go_wp2_with fail
    go_loopw [3, 5] (fun v i wr => ∃ k : Nat, k ≤ hs.length ∧ i = .int .i64 k ∧ wr.ownsRow w.heap.size 3 1 v k (((unR hs).take k).map (Value.int .i64)) ∧ Below w.heap.size w wr) (fun _ i _ => hs.length - (intOf i).toNat)
    case atStart => exact ⟨0, Nat.zero_le _, rfl, hown0, hB3⟩
    case round =>
      clear hown0 hB3 hB2
      obtain ⟨k, hk, rfl, hown, hB⟩ := hrel
      by_cases hlt : k < hs.length
      · obtain ⟨b0, b1, b2, b3, b4, b5⟩ := un_bd HV.out HL.out hlt
        have hg := un_get hs hlt
        have ht := take_mapI (unR hs) k (by rw [un_len]; exact hlt)
        rw [hg] at ht
        rw [← HCM.out] at b2 b3 b4 b5 ht
        obtain ⟨hh, hhe⟩ : ∃ hh, hs.getD k hd0 = hh := ⟨_, rfl⟩
        obtain ⟨x, n, d⟩ := hh
        rw [hhe] at b0 b1 b2 b3 b4 b5 ht
        dsimp only at b0 b1 b2 b3 b4 b5 ht
        have HHE := Lib.hid hhe
        have HT := Lib.hid ht
        have hd0' : (d == 0) = false := by simp; omega
        have hw : IntKind.i64.wrap (cm / d * n) = cm / d * n := IntWalk.i64_in _ (by omega)
        have hq1 : cm.tdiv d = cm / d := Int.tdiv_eq_ediv_of_nonneg cm0
        have hq2 : IntKind.i64.wrap (cm / d) = cm / d := IntWalk.i64_in _ (by omega)
        have hdz : ¬ d = 0 := by omega
        have i0' : (0 : Int) ≤ (k : Int) := by omega
        have i1 : (k : Int) < (hs.length : Int) := by omega
        have HB := Lib.hid hB
        have hBd := hB.drew
        clear hg ht hB hhe
        go_wp2_with fail
        have hownD := (show World.ownsRow wr.drew _ _ _ _ _ _ from hown)
        have hownA := hownD.alloc (.cells #[.int .i64 (cm / d * n)] 3)
        have hnew : Reads (wr.drew.alloc (.cells #[.int .i64 (cm / d * n)] 3)) (wr.heap.size + 1) 1 (some ⟨wr.heap.size, 0, none⟩) 1 [.int .i64 (cm / d * n)] := new_reads wr.drew _ _
        have hbs : w.heap.size ≤ (wr.drew.alloc (.cells #[.int .i64 (cm / d * n)] 3)).heap.size := by have := hBd.size; simp at this ⊢; omega
        go_region_held3 (fun w' => w'.cell? ⟨g, off + k * 3 + 1, none⟩ = some (.int .i64 n) ∧ w'.cell? ⟨g, off + k * 3 + 2, none⟩ = some (.int .i64 d) ∧ Below w.heap.size w w') (first | (exact keepU HC.out hlt HHE.out hBd) | (exact keepU HC.out hlt HHE.out (hBd.alloc hBd.size _)) | (exact keepU HC.out hlt HHE.out ((hBd.alloc hBd.size _).grown hg3 (hBd.alloc hBd.size _).size (fun q hq => (hown.lt q hq).1))))
          ((refine step_append_any _ rfl (.tmp 23) (.tmp 39) 46 (by rfl) w.heap.size 3 i0 (.int .i64 0) 1 8 Try.underlying46 hi hz0 hz1 hz2 rfl (by decide) _ k (((unR hs).take k).map (Value.int .i64)) (by rfl) hownA (wr.heap.size + 1) (some ⟨wr.heap.size, 0, none⟩) 1 1 [.int .i64 (cm / d * n)] (by rfl) hnew (fun x hx => by simp at hx; subst hx; rfl) (by unfold maxLen; omega) (by omega) hbs ?_; intro v' w3 hown' hg3 hat3))
        have hB3 : Below w.heap.size w w3 := (And.right (And.right (by assumption)))
        have hown3 : w3.ownsRow w.heap.size 3 1 v' (k + 1) (((unR hs).take (k + 1)).map (Value.int .i64)) := by rw [HT.out]; exact hown'
        go_wp2_with fail
        go_roundw
        case rel => exact ⟨k + 1, by omega, by go_num, hown3, hB3⟩
        case measure => simp [intOf]; omega
      · obtain rfl : hs.length = k := by omega
        have HO := Lib.hid hown
        have HB := Lib.hid hB
        clear hown hB
        go_wp2_with fail
        go_ret
        refine ⟨_, rfl, ?_, HB.out⟩
        have ho := HO.out
        rw [List.take_of_length_le (by rw [un_len]; exact Nat.le_refl _)] at ho
        exact ho
end Go.Proofs.Ytonoallohalhgaa
