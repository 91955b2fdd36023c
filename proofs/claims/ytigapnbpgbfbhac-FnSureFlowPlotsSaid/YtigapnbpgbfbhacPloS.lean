/- Plots, by the model: valid ones, and the table of yields. Condition: at most 1048576 plots. -/
import Derived.Test.YtigapnbpgbfbhacPloP
import Derived.Test.YtigapnbpgbfbhacGrA
import Derived.Test.YtigapnbpgbfbhacClmS
import Derived.Test.YtigapnbpgbfbhacClmY
import Derived.Deep.RegionHeld3
import Derived.Deep.QuietTactic
import Derived.StillTailTactics
import Derived.Maps.AppendAt
namespace Go.Proofs.Ytigapnbpgbfbhac
open Go.RowKit
set_option linter.unusedSimpArgs false
set_option linter.unusedVariables false
theorem infoRowP : (Try.prog.info? 31).map (fun i => (i.zero, i.size, i.bytes)) = some (some (.slice none 0 0), 1, 24) := by kernel_rfl
/-- a row of the table -/
def TRow (W : World) (lo : Nat) (v : Value) (ob : Option Nat) (zs : List Int) : Prop := OwnI W lo v zs ∧ v.ownBlock ≠ ob
/-- the table of yields -/
def Tab (W : World) (lo : Nat) (v : Value) (ps : List Pl) (M m : Nat) : Prop := ∃ rv : List Value, rv.length = m ∧ W.ownsRow lo 31 1 v m rv ∧ ∀ j, j < m → TRow W lo (rv.getD j undef) v.ownBlock (rowY ps M j)
theorem tab_below {W W' : World} {lo : Nat} {v : Value} {ps : List Pl} {M m : Nat} (h : Tab W lo v ps M m) (hB : Below W.heap.size W W') : Tab W' lo v ps M m := by
  obtain ⟨rv, hl, ho, hr⟩ := h
  exact ⟨rv, hl, World.ownsRow.kept ho (g_of hB (some W.heap.size)) (.inr (by intro e; have := (World.ownsRow.lt ho _ e).2; omega)), fun j hj => ⟨(hr j hj).1.of_block hB, (hr j hj).2⟩⟩
theorem tab_drewN {W : World} {lo : Nat} {v : Value} {ps : List Pl} {M m : Nat} (h : Tab W lo v ps M m) (n : Nat) : Tab (W.drewN n) lo v ps M m := h
theorem tab_first {w W : World} (hB : Below w.heap.size w W) (ps : List Pl) (M : Nat) (hM : M ≤ 500) : Tab ((W.alloc (.cells (madeCells #[.int .i64 0] (M + 1)) 3)).alloc (.cells #[.slice (some ⟨W.heap.size, 0, none⟩) (M + 1) (M + 1)] 31)) w.heap.size (.slice (some ⟨(W.alloc (.cells (madeCells #[.int .i64 0] (M + 1)) 3)).heap.size, 0, none⟩) 1 1) ps M 1 := by
  have h1 := OwnI.made hB (M + 1) (by omega)
  rw [← rowY_zero ps M] at h1
  refine ⟨[.slice (some ⟨W.heap.size, 0, none⟩) (M + 1) (M + 1)], rfl, World.ownsRow_lit _ #[.slice (some ⟨W.heap.size, 0, none⟩) (M + 1) (M + 1)] 1 (by have := hB.size; simp; omega) (by unfold maxLen; omega) rfl, fun j hj => ?_⟩
  obtain rfl : j = 0 := by omega
  refine ⟨h1.of_block ((Below.refl _ _).alloc (Nat.le_refl _) _), ?_⟩
  show (some W.heap.size : Option Nat) ≠ some _
  intro e
  have := Option.some.inj e
  simp at this
theorem tab_append {W w9 : World} {lo m : Nat} {v v' vr : Value} {ps : List Pl} {M : Nat} {O : Obj} {rv : List Value} (hl : rv.length = m) (hr : ∀ j, j < m → TRow W lo (rv.getD j undef) v.ownBlock (rowY ps M j)) (hn : TRow W lo vr v.ownBlock (rowY ps M m))
    (own9 : w9.ownsRow lo 31 1 v' (m + 1) (rv ++ [vr])) (hG : (W.alloc O).grownBy w9 v.ownBlock) (ho : v'.ownBlock = v.ownBlock ∨ v'.ownBlock = some (W.alloc O).heap.size) : Tab w9 lo v' ps M (m + 1) := by
  have step : ∀ (u : Value) (zs : List Int), TRow W lo u v.ownBlock zs → TRow w9 lo u v'.ownBlock zs := fun u zs h => by
    have ha : OwnI (W.alloc O) lo u zs := h.1.of_block ((Below.refl _ _).alloc (Nat.le_refl _) _)
    refine ⟨OwnI.grown ha hG h.2, ?_⟩
    rcases ho with e | e
    · rw [e]; exact h.2
    · rw [e]; intro e2
      have := (World.ownsRow.lt h.1 _ e2).2
      simp at this; omega
  refine ⟨rv ++ [vr], by rw [List.length_append, hl]; rfl, own9, fun j hj => ?_⟩
  by_cases e : j = m
  · subst e
    rw [List.getD_eq_getElem?_getD, List.getElem?_append_right (by omega), hl, Nat.sub_self]
    exact step _ _ hn
  · have : (rv ++ [vr]).getD j undef = rv.getD j undef := by
      rw [List.getD_eq_getElem?_getD, List.getD_eq_getElem?_getD, List.getElem?_append_left (by omega)]
    rw [this]; exact step _ _ (hr j (by omega))
theorem tab_form {W : World} {lo : Nat} {v : Value} {ps : List Pl} {M m : Nat} (h : Tab W lo v ps M m) (hm : 0 < m) : ∃ gt ct, v = .slice (some ⟨gt, 0, none⟩) m ct := by
  obtain ⟨rv, hl, ho, hr⟩ := h
  obtain ⟨gt, ct, hf, _⟩ := World.ownsRow.form ho hm
  exact ⟨gt, ct, hf⟩
theorem tab_at {W : World} {lo gt ct : Nat} {ps : List Pl} {M m j : Nat} (h : Tab W lo (.slice (some ⟨gt, 0, none⟩) m ct) ps M m) (hj : j < m) : ∃ gj cj, W.cell? ⟨gt, j, none⟩ = some (.slice (some ⟨gj, 0, none⟩) (M + 1) cj) ∧ (∀ x, x ≤ M → W.cell? ⟨gj, x, none⟩ = some (.int .i64 (yT ps j x))) ∧ IsInts W (some ⟨gj, 0, none⟩) (rowY ps M j) := by
  obtain ⟨rv, hl, ho, hr⟩ := h
  have hc := World.ownsRow.cellAt ho j (by omega)
  obtain ⟨hO, _⟩ := hr j hj
  rw [List.getElem?_eq_getElem (by omega)] at hc
  have e : rv.getD j undef = rv[j]'(by omega) := by rw [List.getD_eq_getElem?_getD, List.getElem?_eq_getElem (by omega)]; rfl
  rw [e] at hO
  obtain ⟨b, c, hv, hI⟩ := OwnI.ints hO
  rw [hv] at hO hc
  rw [rowY_len] at hO hc
  obtain ⟨gj, rfl, _⟩ := OwnI.form_ hO (by rw [rowY_len]; omega)
  refine ⟨gj, c, hc, fun x hx => ?_, hI⟩
  have := OwnI.cell hO (j := x) (by rw [rowY_len]; omega)
  rw [rowY_get hx] at this; exact this
theorem plcN_casesP (r : List Int) (x : Int) : (x ∈ r ∧ ∃ q : Nat, plcVN r x = (q : Int)) ∨ (x ∉ r ∧ plcVN r x = -1) := by
  by_cases c : x ∈ r
  · refine .inl ⟨c, ?_⟩
    have hh : ∀ q, (∃ j, j < q ∧ j < r.length ∧ r.getD j 0 = x) → ∃ j, j < r.length ∧ r.getD j 0 = x ∧ ∀ i, i < j → r.getD i 0 ≠ x := by
      intro q
      induction q with
      | zero => rintro ⟨j, h, _⟩; omega
      | succ q ih =>
        rintro ⟨j, h1, h2, h3⟩
        by_cases d : ∃ i, i < q ∧ i < r.length ∧ r.getD i 0 = x
        · exact ih d
        · exact ⟨j, h2, h3, fun i hi e => d ⟨i, by omega, by omega, e⟩⟩
    obtain ⟨j, h1, h2⟩ := mem_getN.1 c
    obtain ⟨j, h1, h2, h3⟩ := hh (j + 1) ⟨j, by omega, h1, h2⟩
    exact ⟨j, plcN_at h1 h3 h2⟩
  · exact .inr ⟨c, plcN_no (fun j hj e => c (mem_getN.2 ⟨j, hj, e⟩))⟩
set_option maxRecDepth 100000 in
set_option maxHeartbeats 8000000 in
/-- spec.validPlots -/
theorem svP (a : Option Addr) (cap : Nat) (ps : List Pl) (w : World) (h : IsPl w a ps) (hn : ps.length ≤ 1048576) :
    Calls Try.prog 40 #[.slice a ps.length cap] w fun e w' => e = .returned (.bool (vpB ps)) ∧ Below w.heap.size w w' := by
  rcases h with rfl | ⟨g, o, rfl, hc⟩
  · have HV : Hid (vpB ([] : List Pl) = true) := vp_yes (by show 0 ≤ 10; omega) (fun k hk => absurd hk (Nat.not_lt_zero _))
    go_enter Try.func40, Try.ntmps40
    go_wp2_with fail
    go_rounds 1
    go_ret
    exact ⟨ret_bool HV.out.symm, by go_grown⟩
  have HC := Lib.hid hc
  clear hc
  go_enter Try.func40, Try.ntmps40
  go_wp2_with fail
  go_loopw [3] (fun i wr => ∃ k : Nat, k ≤ ps.length ∧ i = .int .i64 k ∧ Hid (∀ j, j < k → plotB (ps.getD j pl0) = true) ∧ Below w.heap.size w wr) (fun i _ => ps.length - (intOf i).toNat)
  case atStart => exact ⟨0, Nat.zero_le _, rfl, (fun j hj => absurd hj (Nat.not_lt_zero _)), by go_grown⟩
  case round =>
    obtain ⟨k, hk, rfl, HA, hB⟩ := hrel
    by_cases hlt : k < ps.length
    · obtain ⟨c0, c1⟩ := pl_at HC.out hB hlt
      have HNO := Lib.hid (vp_no2 (ps := ps) hlt)
      have HYE : Hid (plotB (ps.getD k pl0) = true → ∀ j, j < k + 1 → plotB (ps.getD j pl0) = true) := fun e => rng_more HA.out e
      generalize ps.getD k pl0 = r at c0 c1 HNO HYE
      obtain ⟨x0, x1⟩ := r
      dsimp only at c0 c1
      have HB := Lib.hid hB
      have k0 : (0 : Int) ≤ (k : Int) := by omega
      have k1 : (k : Int) < (ps.length : Int) := by omega
      clear hB HA
      by_cases q0 : 0 ≤ x0 ∧ x0 ≤ 500
      · by_cases q1 : 1 ≤ x1 ∧ x1 ≤ 1000
        · have HV := Lib.hid (HYE.out ((plotB_iff _).2 ⟨q0, q1⟩))
          go_wp2_with fail
          refine (inRange_yes x0 0 500 _ q0.1 q0.2).mono ?_
          rintro e w' ⟨rfl, rfl⟩
          go_wp2_with fail
          refine (inRange_yes x1 1 1000 _ q1.1 q1.2).mono ?_
          rintro e w' ⟨rfl, rfl⟩
          go_wp2_with fail
          go_roundw
          case rel => exact ⟨k + 1, by omega, by go_num, HV.out, HB.out⟩
          case measure => simp [intOf]; omega
        · have HV := Lib.hid (HNO.out (plotB_no (fun c => q1 c.2)))
          go_wp2_with fail
          refine (inRange_yes x0 0 500 _ q0.1 q0.2).mono ?_
          rintro e w' ⟨rfl, rfl⟩
          go_wp2_with fail
          refine (inRange_no x1 1 1000 _ (by omega)).mono ?_
          rintro e w' ⟨rfl, rfl⟩
          go_wp2_with fail
          go_ret
          exact ⟨ret_bool HV.out.symm, HB.out⟩
      · have HV := Lib.hid (HNO.out (plotB_no (fun c => q0 c.1)))
        go_wp2_with fail
        refine (inRange_no x0 0 500 _ (by omega)).mono ?_
        rintro e w' ⟨rfl, rfl⟩
        go_wp2_with fail
        go_ret
        exact ⟨ret_bool HV.out.symm, HB.out⟩
    · have HV := Lib.hid (vp_end (fun j hj => HA.out j (by omega)))
      have HB := Lib.hid hB
      clear hB HA
      go_wp2_with fail
      go_ret
      exact ⟨ret_bool HV.out.symm, HB.out⟩
set_option maxRecDepth 100000 in
set_option maxHeartbeats 8000000 in
/-- spec.ValidPlots -/
theorem sVP (a : Option Addr) (cap : Nat) (ps : List Pl) (w : World) (h : IsPl w a ps) (hn : ps.length ≤ 1048576) :
    Calls Try.prog 13 #[.slice a ps.length cap] w fun e w' => e = .returned (.bool (vpB ps)) ∧ Below w.heap.size w w' := by
  have CV := svP a cap ps w h hn
  clear h
  go_enter Try.func13, Try.ntmps13
  go_wp2_with fail
  refine CV.mono ?_
  rintro e w1 ⟨rfl, C⟩
  clear CV
  go_wp2_with fail
  go_ret
  exact ⟨rfl, C⟩
set_option maxRecDepth 100000 in
set_option maxHeartbeats 8000000 in
/-- spec.yields -/
theorem sYl (a : Option Addr) (cap : Nat) (ps : List Pl) (M : Nat) (w : World) (h : IsPl w a ps) (hv : vpB ps = true) (hM : M ≤ 500) :
    Calls Try.prog 45 #[.slice a ps.length cap, .int .i64 (M : Int)] w fun e w' => ∃ v, e = .returned v ∧ Tab w' w.heap.size v ps M (ps.length + 1) ∧ Below w.heap.size w w' := by
  obtain ⟨i0, hi0, hz0, hz1, hz2⟩ := info_parts infoRowP
  have hmk := run_make_row' (P := Try.prog) 31 3 (.int .i64 0) 8 Try.underlying31 infoInt rfl .i64 .i64 (M + 1) (by omega) (by omega)
  rw [show ((M + 1 : Nat) : Int) = (M : Int) + 1 from by omega] at hmk
  have wM : IntKind.i64.wrap ((M : Int) + 1) = (M : Int) + 1 := by rw [IntKind.wrap_i64]; omega
  have l10 := (vp_is hv).1
  have HVA : Hid (∀ k, k < ps.length → (0 ≤ (ps.getD k pl0).1 ∧ (ps.getD k pl0).1 ≤ 500) ∧ (1 ≤ (ps.getD k pl0).2 ∧ (ps.getD k pl0).2 ≤ 1000)) := fun k hk => vp_at hv hk
  have HBD : Hid (∀ k x, k ≤ ps.length → 0 ≤ yT ps k x ∧ yT ps k x ≤ 10000) := fun k x hk => by have := yT_bd hv k x hk; omega
  have HIS := Lib.hid h
  have HT := Lib.hid (tab_first (Below.refl w.heap.size w) ps M hM)
  have HB := Lib.hid (((Below.refl w.heap.size w).alloc (Nat.le_refl _) (.cells (madeCells #[.int .i64 0] (M + 1)) 3)).alloc (by simp) (.cells #[.slice (some ⟨w.heap.size, 0, none⟩) (M + 1) (M + 1)] 31))
  clear hv h
  go_enter Try.func45, Try.ntmps45
  go_wp2_with fail
  clear hmk
  generalize (w.alloc (.cells (madeCells #[.int .i64 0] (M + 1)) 3)).alloc (.cells #[.slice (some ⟨w.heap.size, 0, none⟩) (M + 1) (M + 1)] 31) = w2 at HT HB ⊢
  have hgs : (w.alloc (.cells (madeCells #[.int .i64 0] (M + 1)) 3)).heap.size = w.heap.size + 1 := by simp
  rw [hgs] at HT
  clear hgs
  go_loopw [5, 6] (fun v i wr => ∃ k : Nat, k ≤ ps.length ∧ i = .int .i64 k ∧ Tab wr w.heap.size v ps M (k + 1) ∧ Below w.heap.size w wr) (fun _ i _ => ps.length - (intOf i).toNat)
  case atStart => exact ⟨0, Nat.zero_le _, rfl, HT.out, HB.out⟩
  case round =>
    clear HT HB
    obtain ⟨k, hk, rfl, hT, hB⟩ := hrel
    by_cases hlt : k < ps.length
    · have hpl := pl_below HIS.out hB
      rcases hpl with hnil | ⟨ga, oa, rfl, hc⟩
      · rw [hnil] at hlt; exact absurd hlt (Nat.not_lt_zero _)
      obtain ⟨c0, c1⟩ := hc k hlt
      obtain ⟨⟨v0, v1⟩, v2, v3⟩ := HVA.out k hlt
      have HY1 : Hid (∀ u : Nat, (ps.getD k pl0).1 ≤ (u : Int) → yT ps (k + 1) u = max (yT ps k u) (yT ps k (u - (ps.getD k pl0).1.toNat) + (ps.getD k pl0).2)) := fun u e => yT_yes e
      have HST : Hid (rowU ps M k (ps.getD k pl0).1 = rowY ps M k) := rowU_start
      have HBK : Hid (∀ x, 0 ≤ yT ps k x ∧ yT ps k x ≤ 10000) := fun x => HBD.out k x (by omega)
      have k0 : (0 : Int) ≤ (k : Int) := by omega
      have kx : (k : Int) < (ps.length : Int) := by omega
      have kt : (k : Int) < (k : Int) + 1 := by omega
      generalize ps.getD k pl0 = r at c0 c1 v0 v1 v2 v3 HY1 HST
      obtain ⟨x0, x1⟩ := r
      dsimp only at c0 c1 v0 v1 v2 v3 HY1 HST
      obtain ⟨d, hd⟩ : ∃ d : Nat, x0 = (d : Int) := ⟨x0.toNat, by omega⟩
      subst hd
      obtain ⟨gt, ct, rfl⟩ := tab_form hT (by omega)
      obtain ⟨gj, cj, tc, _, hI⟩ := tab_at hT (j := k) (by omega)
      have hb0 := World.block_lt_of_cell? _ _ c0
      have hb1 := World.block_lt_of_cell? _ _ c1
      have CP := scopyN (some ⟨gj, 0, none⟩) cj (rowY ps M k) wr hI (by rw [rowY_len]; omega)
      rw [rowY_len] at CP
      have HT := Lib.hid hT
      have HB := Lib.hid hB
      obtain ⟨wo, hwo⟩ : ∃ W, W = wr := ⟨_, rfl⟩
      subst hwo
      have HC0 := Lib.hid c0
      have HC1 := Lib.hid c1
      clear hI hT hB hc c0 c1
      go_wp2_with fail
      refine CP.mono ?_
      rintro e w3 ⟨vr, rfl, hO3, C3⟩
      obtain ⟨br, cr, hvr, _⟩ := OwnI.ints hO3
      rw [rowY_len] at hvr
      subst hvr
      obtain ⟨gr, rfl, hgr⟩ := OwnI.form_ hO3 (by rw [rowY_len]; omega)
      have c0 : w3.cell? ⟨ga, oa + k * 2, none⟩ = some (.int .i64 (d : Int)) := (C3.cell (p := ⟨ga, oa + k * 2, none⟩) hb0).trans HC0.out
      have HO3 : Hid (OwnI w3 wo.heap.size (.slice (some ⟨gr, 0, none⟩) (M + 1) cr) (rowU ps M k (d : Int))) := by show OwnI _ _ _ _; rw [HST.out]; exact hO3
      have HB3 := Lib.hid C3
      clear CP tc hO3 C3
      go_wp2_with fail
      clear c0
      go_loopw [8] (fun i wi => ∃ u : Nat, d ≤ u ∧ i = .int .i64 u ∧ u ≤ 1001 ∧ OwnI wi wo.heap.size (.slice (some ⟨gr, 0, none⟩) (M + 1) cr) (rowU ps M k (u : Int)) ∧ Below wo.heap.size wo wi) (fun i _ => M + 1 - (intOf i).toNat)
      case atStart => exact ⟨d, Nat.le_refl _, rfl, by omega, HO3.out, HB3.out⟩
      case round =>
        clear HO3 HB3
        obtain ⟨u, hdu, rfl, hu1, hO, hB⟩ := hrel
        by_cases huM : u ≤ M
        · obtain ⟨m, hm⟩ : ∃ m : Nat, u = m + d := ⟨u - d, by omega⟩
          have hy := HY1.out u (by omega)
          rw [show u - ((d : Int)).toNat = m from by omega] at hy
          obtain ⟨gj2, cj2, t1, t2, _⟩ := tab_at (tab_below HT.out hB) (j := k) (by omega)
          have r1 := t2 m (by omega)
          have r2 := OwnI.cell hO (j := u) (by rw [rowU_len]; omega)
          rw [rowU_own huM] at r2
          have fz := OwnI.frozen hO u
          have c0 : wr.cell? ⟨ga, oa + k * 2, none⟩ = some (.int .i64 (d : Int)) := (hB.cell (p := ⟨ga, oa + k * 2, none⟩) hb0).trans HC0.out
          have c1 : wr.cell? ⟨ga, oa + k * 2 + 1, none⟩ = some (.int .i64 x1) := (hB.cell (p := ⟨ga, oa + k * 2 + 1, none⟩) hb1).trans HC1.out
          have b1 := HBK.out m
          have b2 := HBK.out u
          have hset := OwnI.set_ hO u (yT ps (k + 1) u)
          rw [rowU_set huM, hy, show max (yT ps k u) (yT ps k m + x1) = if yT ps k u < yT ps k m + x1 then yT ps k m + x1 else yT ps k u from by split <;> omega] at hset
          have hBs := (hB).setCell (p := ⟨gr, u, none⟩) hgr (.int .i64 (if yT ps k u < yT ps k m + x1 then yT ps k m + x1 else yT ps k u))
          generalize yT ps k m = A at r1 hset hBs b1
          generalize yT ps k u = Bv at r2 hset hBs b2
          have HX := Lib.hid (And.intro hset hBs.drew)
          have wA1 : IntKind.i64.wrap (A + x1) = A + x1 := by rw [IntKind.wrap_i64]; omega
          have wA2 : IntKind.i64.wrap ((u : Int) - (d : Int)) = (m : Int) := by rw [IntKind.wrap_i64]; omega
          have wA3 : IntKind.i64.wrap ((u : Int) + 1) = (u : Int) + 1 := by rw [IntKind.wrap_i64]; omega
          have m0 : (0 : Int) ≤ (m : Int) := by omega
          have m1 : (m : Int) < (M : Int) + 1 := by omega
          have u0 : (0 : Int) ≤ (u : Int) := by omega
          have u1 : (u : Int) < (M : Int) + 1 := by omega
          have dz : decide ((u : Int) ≤ (M : Int)) = true := decide_eq_true (by omega)
          clear hO hB hy b1 b2 HY1 HST HBK hm t2 hset hBs
          go_wp2_with fail
          refine wp_region_still_tail 27 (by kernel_rfl) (by kernel_rfl) ?_
          simp only [List.take_succ_cons, List.take_zero, List.drop_succ_cons, List.drop_zero]
          iterate 27 still_step
          refine wpStill_nil ?_
          change wpList _ _ _ _ _ wr.drew
          go_wp2_with fail
          go_roundw
          case rel => exact ⟨u + 1, by omega, by go_num, by omega, by rw [show ((u + 1 : Nat) : Int) = (u : Int) + 1 from by omega]; exact HX.out.1, HX.out.2⟩
          case measure => simp [intOf]; omega
        · have dz : decide ((u : Int) ≤ (M : Int)) = false := decide_eq_false (by omega)
          rw [rowU_end (by omega)] at hO
          have hT2 := tab_below HT.out hB
          obtain ⟨rv, hrl, hro, hrr⟩ := hT2
          have hB2 := bel_tr HB.out hB
          have hsz := hB2.size
          have hgt := (World.ownsRow.lt hro gt rfl).2
          have hnew : TRow wr w.heap.size (.slice (some ⟨gr, 0, none⟩) (M + 1) cr) (some gt) (rowY ps M (k + 1)) := ⟨own_lower hO (by have := HB.out.size; omega), fun e => by
            have h2 := (World.ownsRow.lt HT.out.choose_spec.2.1 gt rfl).2
            have e3 : gr = gt := Option.some.inj e
            omega⟩
          have HN := Lib.hid (And.intro hnew hB2)
          have HRR := Lib.hid hrr
          clear hO hB hnew hB2 hrr
          go_wp2_with (first | (at_builtin; refine wpList_append_own_at _ rfl (.tmp 61) (.tmp 63) 62 rfl w.heap.size 31 i0 (.slice none 0 0) 1 24 Try.underlying62 hi0 hz0 hz1 hz2 rfl (by decide) _ (k + 1) rv rfl (World.ownsRow.alloc hro _) ⟨wr.heap.size, 0, none⟩ 1 1 [.slice (some ⟨gr, 0, none⟩) (M + 1) cr] rfl rfl (cell_one_new _ _ _) (fun x hx => by simp at hx; subst hx; rfl) (by unfold maxLen; omega) (by omega) (by simp; omega) ?_; intro v3 w3 hown3 hgrow3 hnil3 hat3))
          have hTn := Lib.hid (tab_append hrl HRR.out HN.out.1 hown3 hgrow3 hat3)
          have hBn := Lib.hid ((HN.out.2.alloc HN.out.2.size _).grown hgrow3 (by simp; omega) (fun q hq => by have e : gt = q := Option.some.inj hq; have := (World.ownsRow.lt hro gt rfl).1; omega))
          clear hown3 hgrow3 hnil3 hat3 hro
          go_roundw
          case rel => exact ⟨k + 1, by omega, by go_num, hTn.out, hBn.out⟩
          case measure => simp [intOf]; omega
    · obtain rfl : k = ps.length := by omega
      have HX := Lib.hid (And.intro hT hB)
      clear hT hB
      go_wp2_with fail
      go_ret
      exact ⟨_, rfl, HX.out.1, HX.out.2⟩
end Go.Proofs.Ytigapnbpgbfbhac
