/- The laws' sums of leases. Condition: at most 1048576 leases with valid terms. -/
import Derived.Test.YtaehemmjemhgpaaPBG4
import Derived.Test.YtaehemmjemhgpaaPBG0
import Derived.Deep.RegionHeld3
import Derived.Deep.RegionWith
import Derived.Deep.QuietTactic
import Derived.BigQuiet
import Derived.RegionTactic
set_option maxRecDepth 100000
set_option maxHeartbeats 16000000
namespace Go.Proofs.Ytaehemmjemhgpaa
open Go.RowKit
set_option linter.unusedSimpArgs false
set_option linter.unusedVariables false
theorem sums_no {ls : List Lr} {i : Nat} (hi : i < ls.length) (h : lentOk ls (ls.getD i lr0).ow (ls.getD i lr0).fr = false) : sumsB ls = false := rng_no (f := fun i => lentOk ls (ls.getD i lr0).ow (ls.getD i lr0).fr) hi h
theorem sums_all {ls : List Lr} (h : ∀ j, j < ls.length → lentOk ls (ls.getD j lr0).ow (ls.getD j lr0).fr = true) : sumsB ls = true := (rng_all _ _).2 h
/-- laws.sumsAreFractions -/
theorem lsumF (a : Option Addr) (cap : Nat) (ls : List Lr) (w : World) (h : IsLs w a ls) (hn : ls.length ≤ 1048576) (ht : termsB ls = true) :
    Calls Try.prog 20 #[.slice a ls.length cap] w fun e w' => e = .returned (.bool (sumsB ls)) ∧ Below w.heap.size w w' := by
  have HI := Lib.hid h
  have HT := Lib.hid ht
  clear h ht
  have B0 := Below.refl w.heap.size w
  go_enter Try.func20, Try.ntmps20
  go_wp2_with fail
  go_loopw [3] (fun i wr => ∃ k : Nat, k ≤ ls.length ∧ i = .int .i64 k ∧ Hid (∀ j, j < k → lentOk ls (ls.getD j lr0).ow (ls.getD j lr0).fr = true) ∧ Below w.heap.size w wr) (fun i _ => ls.length - (intOf i).toNat)
  case atStart => exact ⟨0, Nat.zero_le _, rfl, fun j hj => absurd hj (Nat.not_lt_zero _), B0⟩
  case round =>
    clear B0
    obtain ⟨i, hi, rfl, HA, hB⟩ := hrel
    obtain ⟨w4, hw4⟩ : ∃ W, W = wr := ⟨_, rfl⟩
    subst hw4
    by_cases hlt : i < ls.length
    · have hls := ls_below HI.out hB
      rcases hls with he | ⟨g, u, rfl, hc⟩
      · rw [he] at hlt; simp at hlt
      have HC := Lib.hid hc
      have HBw := Lib.hid hB
      have hno := sums_no hlt
      have hmr := rng_more (f := fun j => lentOk ls (ls.getD j lr0).ow (ls.getD j lr0).fr) HA.out
      obtain ⟨a0, _, _, _, a4, _⟩ := hc i hlt
      generalize (ls.getD i lr0).ow = o at a0 hno hmr
      generalize (ls.getD i lr0).fr = t at a4 hno hmr
      have HNO := Lib.hid hno
      have HMR := Lib.hid hmr
      have HA0 := Lib.hid a0
      have HA4 := Lib.hid a4
      have lgA := World.block_lt_of_cell? w4 _ a0
      obtain ⟨U, hU⟩ : ∃ y, y = w4.alloc (.cells #[.int .i64 0, .int .i64 1] 58) := ⟨_, rfl⟩
      have KS0 : Blk U w4.heap.size 58 #[.int .i64 (lentS ls o t 0).num, .int .i64 ((lentS ls o t 0).den : Int)] := by subst hU; exact Blk.new _ _ _
      have BU : Below w4.heap.size w4 U := by subst hU; exact (Below.refl _ _).alloc (Nat.le_refl _) _
      have HU := Lib.hid hU
      have wi : IntKind.i64.wrap ((i : Int) + 1) = (i : Int) + 1 := by rw [IntKind.wrap_i64]; omega
      clear hc hB hno hmr a0 a4 hU
      go_upto_region 5 with fail
      rw [← HU.out]
      clear HU
      obtain ⟨gS, hgS⟩ : ∃ x, x = w4.heap.size := ⟨_, rfl⟩
      rw [← hgS] at KS0 ⊢
      have lgS : w4.heap.size ≤ gS := by omega
      clear hgS
      go_wp2_with fail
      go_loopw [5] (fun i wr => ∃ k : Nat, k ≤ ls.length ∧ i = .int .i64 k ∧ Hid (∀ j, j < k → frB (lentS ls o t (j + 1)) = true) ∧ Blk wr gS 58 #[.int .i64 (lentS ls o t k).num, .int .i64 ((lentS ls o t k).den : Int)] ∧ Below w4.heap.size w4 wr) (fun i _ => ls.length - (intOf i).toNat)
      case atStart => exact ⟨0, Nat.zero_le _, rfl, fun j hj => absurd hj (Nat.not_lt_zero _), KS0, BU⟩
      case round =>
        clear KS0 BU
        obtain ⟨k, hk, rfl, HF, KS, BQ⟩ := hrel
        by_cases hkt : k < ls.length
        · obtain ⟨c0, _, c2, c3, c4, c5⟩ := HC.out k hkt
          have lg0 := World.block_lt_of_cell? w4 _ c0
          replace c0 := (BQ.cell (p := ⟨g, u + k * 6, none⟩) lg0).trans c0
          replace c2 := (BQ.cell (p := ⟨g, u + k * 6 + 2, none⟩) lg0).trans c2
          replace c3 := (BQ.cell (p := ⟨g, u + k * 6 + 3, none⟩) lg0).trans c3
          replace c4 := (BQ.cell (p := ⟨g, u + k * 6 + 4, none⟩) lg0).trans c4
          replace c5 := (BQ.cell (p := ⟨g, u + k * 6 + 5, none⟩) lg0).trans c5
          have a0 := (BQ.cell (p := ⟨g, u + i * 6, none⟩) lg0).trans HA0.out
          have a4 := (BQ.cell (p := ⟨g, u + i * 6 + 4, none⟩) lg0).trans HA4.out
          have lg := Nat.lt_of_lt_of_le lg0 BQ.size
          have hfr := lent_fr HF.out
          have hv := terms_at HT.out hkt
          have hstay : lendB (ls.getD k lr0) o t = false → (∀ j, j < k + 1 → frB (lentS ls o t (j + 1)) = true) ∧ lentS ls o t (k + 1) = lentS ls o t k := fun e => by
            have e2 := lent_stay e
            exact ⟨rng_more (f := fun j => frB (lentS ls o t (j + 1))) HF.out (by show frB (lentS ls o t (k + 1)) = true; rw [e2]; exact hfr), e2⟩
          have hmore : lendB (ls.getD k lr0) o t = true → lentS ls o t (k + 1) = lentS ls o t k + Rat.divInt (ls.getD k lr0).n (ls.getD k lr0).d := fun e => lent_more e
          have hbad : frB (lentS ls o t (k + 1)) = false → lentOk ls o t = false := fun e => rng_no (f := fun j => frB (lentS ls o t (j + 1))) hkt e
          have hyes : frB (lentS ls o t (k + 1)) = true → ∀ j, j < k + 1 → frB (lentS ls o t (j + 1)) = true := fun e => rng_more (f := fun j => frB (lentS ls o t (j + 1))) HF.out e
          have hlend : lendB (ls.getD k lr0) o t = (decide ((ls.getD k lr0).ow = o) && (decide ((ls.getD k lr0).fr ≤ t) && decide (t < (ls.getD k lr0).en))) := rfl
          generalize ls.getD k lr0 = l at c0 c2 c3 c4 c5 hv hstay hmore hlend
          obtain ⟨ow, te, n, d, fr, en⟩ := l
          dsimp only at c0 c2 c3 c4 c5 hv hmore hlend
          have PA := part_add hfr hv
          have HST := Lib.hid hstay
          have HMO := Lib.hid hmore
          have HBAD := Lib.hid hbad
          have HYES := Lib.hid hyes
          have HPA := Lib.hid PA
          have HLE := Lib.hid hlend
          have HKS := Lib.hid KS
          have HB := Lib.hid BQ
          have k0 : (0 : Int) ≤ (k : Int) := by omega
          have k1 : (k : Int) < (ls.length : Int) := by omega
          have i0 : (0 : Int) ≤ (i : Int) := by omega
          have i1 : (i : Int) < (ls.length : Int) := by omega
          have wk : IntKind.i64.wrap ((k : Int) + 1) = (k : Int) + 1 := by rw [IntKind.wrap_i64]; omega
          clear hfr hv hstay hmore hbad hyes PA hlend KS BQ
          by_cases h1 : ow = o
          · have e1 : (ow == o) = true := by simpa using h1
            by_cases h2 : fr ≤ t
            · have e2 : decide (fr ≤ t) = true := decide_eq_true h2
              by_cases h3 : t < en
              · have e3 : decide (t < en) = true := decide_eq_true h3
                have hmo := HMO.out (by rw [HLE.out, decide_eq_true h1, e2, e3]; rfl)
                obtain ⟨p1, p2, p3⟩ := HPA.out
                rw [← hmo] at p1 p2 p3
                obtain ⟨s0, s1, _, _, lS⟩ := blk_two HKS.out
                obtain ⟨qn, hqn⟩ : ∃ x, (lentS ls o t k).num = x := ⟨_, rfl⟩
                obtain ⟨qd, hqd⟩ : ∃ x, ((lentS ls o t k).den : Int) = x := ⟨_, rfl⟩
                rw [hqn, hqd] at p1 p2 p3 HKS
                rw [hqn] at s0
                rw [hqd] at s1
                subst h1
                clear hmo hqn hqd h2 h3
                cases hf : frB (lentS ls ow t (k + 1)) with
                | false =>
                  have HN : Hid (sumsB ls = false) := HNO.out (HBAD.out hf)
                  have P1 := Lib.hid (p1.trans hf)
                  clear p1 p2 p3 hf
                  go_upto_region 8 with fail
                  go_quiet (fail)
                  go_upto_region 9 with fail
                  obtain ⟨wq, hwq⟩ : ∃ W, W = wr.drewN nq := ⟨_, rfl⟩
                  rw [← hwq]
                  have DQ : Below wr.heap.size wr wq := by rw [hwq]; exact below_drewN (Below.refl _ _) _
                  replace s0 := (DQ.cell (p := ⟨gS, 0, none⟩) lS).trans s0
                  replace s1 := (DQ.cell (p := ⟨gS, 1, none⟩) lS).trans s1
                  replace c2 := (DQ.cell (p := ⟨g, u + k * 6 + 2, none⟩) lg).trans c2
                  replace c3 := (DQ.cell (p := ⟨g, u + k * 6 + 3, none⟩) lg).trans c3
                  replace lS := Nat.lt_of_lt_of_le lS DQ.size
                  replace lg := Nat.lt_of_lt_of_le lg DQ.size
                  replace HKS := Lib.hid (HKS.out.next DQ)
                  replace HB := Lib.hid (bel_tr HB.out DQ)
                  clear hwq DQ c0 c4 c5 a0 a4
                  go_wp2_with fail
                  have HMK1 := Lib.hid (fun (W : World) (hW : Below wq.heap.size wq W) => (⟨⟨(hW.cell (p := ⟨gS, 0, none⟩) (lS)).trans s0, (hW.cell (p := ⟨gS, 1, none⟩) (lS)).trans s1, (hW.cell (p := ⟨g, u + k * 6 + 2, none⟩) (lg)).trans c2, (hW.cell (p := ⟨g, u + k * 6 + 3, none⟩) (lg)).trans c3⟩, hW⟩ : (W.cell? ⟨gS, 0, none⟩ = some (.int .i64 qn) ∧ W.cell? ⟨gS, 1, none⟩ = some (.int .i64 qd) ∧ W.cell? ⟨g, u + k * 6 + 2, none⟩ = some (.int .i64 n) ∧ W.cell? ⟨g, u + k * 6 + 3, none⟩ = some (.int .i64 d)) ∧ Below wq.heap.size wq W))
                  refine wp_region_held_drew (S := (fun w' => (w'.cell? ⟨gS, 0, none⟩ = some (.int .i64 qn) ∧ w'.cell? ⟨gS, 1, none⟩ = some (.int .i64 qd) ∧ w'.cell? ⟨g, u + k * 6 + 2, none⟩ = some (.int .i64 n) ∧ w'.cell? ⟨g, u + k * 6 + 3, none⟩ = some (.int .i64 d)) ∧ Below wq.heap.size wq w')) (by kernel_rfl) ?_ (fun hHeld => ?_)
                  · exact ⟨⟨s0, s1, c2, c3⟩, (Below.refl _ _).drew⟩
                  refine wpAnyH_take (i := 0) (oi := ?ooa2_) (v := ?vva2_) ?hia2_ (by kernel_rfl) ?h3a2_ ?h4a2_ ?h5a2_ ?h6a2_ (by assumption) ?h8a2_
                  case hia2_ => (simp only [List.getElem?_toArray, List.getElem?_cons_succ, List.getElem?_cons_zero]; rfl)
                  case h3a2_ => kernel_rfl
                  case h4a2_ => kernel_rfl
                  case h6a2_ => (refine Or.inl ⟨by rfl, ?_⟩; intro w hSw; (try dsimp only at hSw); (go_simp <;> with_reducible rfl))
                  case h5a2_ => exact fun _ _ _ h => h
                  try simp only [Act.put, List.setIfInBounds_toArray, List.set_cons_zero, List.set_cons_succ]
                  refine wpAnyH_take (i := 1) (oi := ?ooa3_) (v := ?vva3_) ?hia3_ (by kernel_rfl) ?h3a3_ ?h4a3_ ?h5a3_ ?h6a3_ (by assumption) ?h8a3_
                  case hia3_ => (simp only [List.getElem?_toArray, List.getElem?_cons_succ, List.getElem?_cons_zero]; rfl)
                  case h3a3_ => kernel_rfl
                  case h4a3_ => kernel_rfl
                  case h6a3_ => (refine Or.inl ⟨by rfl, ?_⟩; intro w hSw; (try dsimp only at hSw); (go_simp <;> with_reducible rfl))
                  case h5a3_ => exact fun _ _ _ h => h
                  try simp only [Act.put, List.setIfInBounds_toArray, List.set_cons_zero, List.set_cons_succ]
                  refine wpAnyH_take (i := 2) (oi := ?ooa4_) (v := ?vva4_) ?hia4_ (by kernel_rfl) ?h3a4_ ?h4a4_ ?h5a4_ ?h6a4_ (by assumption) ?h8a4_
                  case hia4_ => (simp only [List.getElem?_toArray, List.getElem?_cons_succ, List.getElem?_cons_zero]; rfl)
                  case h3a4_ => kernel_rfl
                  case h4a4_ => kernel_rfl
                  case h6a4_ => (refine Or.inl ⟨by rfl, ?_⟩; intro w hSw; (try dsimp only at hSw); (go_simp <;> with_reducible rfl))
                  case h5a4_ => exact fun _ _ _ h => h
                  try simp only [Act.put, List.setIfInBounds_toArray, List.set_cons_zero, List.set_cons_succ]
                  refine wpAnyH_take (i := 3) (oi := ?ooa5_) (v := ?vva5_) ?hia5_ (by kernel_rfl) ?h3a5_ ?h4a5_ ?h5a5_ ?h6a5_ (by assumption) ?h8a5_
                  case hia5_ => (simp only [List.getElem?_toArray, List.getElem?_cons_succ, List.getElem?_cons_zero]; rfl)
                  case h3a5_ => kernel_rfl
                  case h4a5_ => kernel_rfl
                  case h6a5_ => (refine Or.inl ⟨by rfl, ?_⟩; intro w hSw; (try dsimp only at hSw); (go_simp <;> with_reducible rfl))
                  case h5a5_ => exact fun _ _ _ h => h
                  try simp only [Act.put, List.setIfInBounds_toArray, List.set_cons_zero, List.set_cons_succ]
                  refine wpAnyH_take (i := 4) (oi := ?ooa6_) (v := ?vva6_) ?hia6_ (by kernel_rfl) ?h3a6_ ?h4a6_ ?h5a6_ ?h6a6_ (by assumption) ?h8a6_
                  case hia6_ => (simp only [List.getElem?_toArray, List.getElem?_cons_succ, List.getElem?_cons_zero]; rfl)
                  case h3a6_ => kernel_rfl
                  case h4a6_ => kernel_rfl
                  case h6a6_ => (refine Or.inl ⟨by rfl, ?_⟩; intro w hSw; (try dsimp only at hSw); (go_simp <;> with_reducible rfl))
                  case h5a6_ => exact fun _ _ _ h => h
                  try simp only [Act.put, List.setIfInBounds_toArray, List.set_cons_zero, List.set_cons_succ]
                  refine wpAnyH_take (i := 5) (oi := ?ooa7_) (v := ?vva7_) ?hia7_ (by kernel_rfl) ?h3a7_ ?h4a7_ ?h5a7_ ?h6a7_ (by assumption) ?h8a7_
                  case hia7_ => (simp only [List.getElem?_toArray, List.getElem?_cons_succ, List.getElem?_cons_zero]; rfl)
                  case h3a7_ => kernel_rfl
                  case h4a7_ => kernel_rfl
                  case h6a7_ => (refine Or.inl ⟨by rfl, ?_⟩; intro w hSw; (try dsimp only at hSw); (go_simp <;> with_reducible rfl))
                  case h5a7_ => exact fun _ _ _ h => h
                  try simp only [Act.put, List.setIfInBounds_toArray, List.set_cons_zero, List.set_cons_succ]
                  refine wpAnyH_ready (rs := [6, 10]) (by kernel_rfl) (by simp) (AllReadyH.cons (o := ?ooa8_q0) ?hia8_q0 (fun K hK => ?hka8_q0) (AllReadyH.cons (o := ?ooa8_q1) ?hia8_q1 (fun K hK => ?hka8_q1) AllReadyH.nil))
                  case hia8_q0 => (simp only [List.getElem?_toArray, List.getElem?_cons_succ, List.getElem?_cons_zero]; rfl)
                  case hia8_q1 => (simp only [List.getElem?_toArray, List.getElem?_cons_succ, List.getElem?_cons_zero]; rfl)
                  case hka8_q0 =>
                    (rw [if_pos (by rfl)]; go_simp; refine (iAddN _ P1.out).mono ?_; rintro e p6_ ⟨rfl, hb⟩; go_wp2_with fail; refine hK.out _ _ (HMK1.out _ (bel_tr hHeld.2 hb)) (fun hHeld => ?_); clear hK K)
                    try simp only [Act.put, List.setIfInBounds_toArray, List.set_cons_zero, List.set_cons_succ]
                    refine wpAnyH_take (i := 7) (oi := ?ooa9_) (v := ?vva9_) ?hia9_ (by kernel_rfl) ?h3a9_ ?h4a9_ ?h5a9_ ?h6a9_ (by assumption) ?h8a9_
                    case hia9_ => (simp only [List.getElem?_toArray, List.getElem?_cons_succ, List.getElem?_cons_zero]; rfl)
                    case h3a9_ => kernel_rfl
                    case h4a9_ => kernel_rfl
                    case h6a9_ => (refine Or.inl ⟨by rfl, ?_⟩; intro w hSw; (try dsimp only at hSw); (go_simp <;> with_reducible rfl))
                    case h5a9_ => exact fun _ _ _ h => h
                    try simp only [Act.put, List.setIfInBounds_toArray, List.set_cons_zero, List.set_cons_succ]
                    refine wpAnyH_take (i := 8) (oi := ?ooa10_) (v := ?vva10_) ?hia10_ (by kernel_rfl) ?h3a10_ ?h4a10_ ?h5a10_ ?h6a10_ (by assumption) ?h8a10_
                    case hia10_ => (simp only [List.getElem?_toArray, List.getElem?_cons_succ, List.getElem?_cons_zero]; rfl)
                    case h3a10_ => kernel_rfl
                    case h4a10_ => kernel_rfl
                    case h6a10_ => (refine Or.inl ⟨by rfl, ?_⟩; intro w hSw; (try dsimp only at hSw); (go_simp <;> with_reducible rfl))
                    case h5a10_ => exact fun _ _ _ h => h
                    try simp only [Act.put, List.setIfInBounds_toArray, List.set_cons_zero, List.set_cons_succ]
                    refine wpAnyH_take (i := 9) (oi := ?ooa11_) (v := ?vva11_) ?hia11_ (by kernel_rfl) ?h3a11_ ?h4a11_ ?h5a11_ ?h6a11_ (by assumption) ?h8a11_
                    case hia11_ => (simp only [List.getElem?_toArray, List.getElem?_cons_succ, List.getElem?_cons_zero]; rfl)
                    case h3a11_ => kernel_rfl
                    case h4a11_ => kernel_rfl
                    case h6a11_ => (refine Or.inl ⟨by rfl, ?_⟩; intro w hSw; (try dsimp only at hSw); (go_simp <;> with_reducible rfl))
                    case h5a11_ => exact fun _ _ _ h => h
                    try simp only [Act.put, List.setIfInBounds_toArray, List.set_cons_zero, List.set_cons_succ]
                    refine wpAnyH_ready (rs := [10]) (by kernel_rfl) (by simp) (AllReadyH.cons (o := ?ooa12_q0) ?hia12_q0 (fun K hK => ?hka12_q0) AllReadyH.nil)
                    case hia12_q0 => (simp only [List.getElem?_toArray, List.getElem?_cons_succ, List.getElem?_cons_zero]; rfl)
                    case hka12_q0 =>
                      (rw [if_pos (by rfl)]; go_simp; have F10 := Lib.hid (Blk.new p6_ 58 #[.int .i64 0, .int .i64 0]); have EE := HMK1.out _ (hHeld.2.alloc hHeld.2.size (.cells #[.int .i64 0, .int .i64 0] 58)); have L10 := hHeld.2.size; generalize p6_.alloc (.cells #[.int .i64 0, .int .i64 0] 58) = W10a at F10 EE ⊢; generalize p6_.heap.size = g10 at F10 L10 ⊢; refine hK.out _ _ (EE) (fun hHeld => ?_); clear hK K)
                      try simp only [Act.put, List.setIfInBounds_toArray, List.set_cons_zero, List.set_cons_succ]
                      refine wpAnyH_ready (rs := [11]) (by kernel_rfl) (by simp) (AllReadyH.cons (o := ?ooa13_q0) ?hia13_q0 (fun K hK => ?hka13_q0) AllReadyH.nil)
                      case hia13_q0 => (simp only [List.getElem?_toArray, List.getElem?_cons_succ, List.getElem?_cons_zero]; rfl)
                      case hka13_q0 =>
                        (rw [if_pos (by rfl)]; have fc0 := F10.out.cell 0; have ff0 := F10.out.frozen 0; have fc1 := F10.out.cell 1; have ff1 := F10.out.frozen 1; simp only [List.getElem?_toArray, List.getElem?_cons_zero, List.getElem?_cons_succ] at fc0 fc1; go_simp; have FF10 : Hid (Blk _ g10 58 #[.int .i64 0, .int .i64 0]) := Lib.hid (((F10.out).set_ 0 (.int .i64 0)).set_ 1 (.int .i64 0)); have EE := HMK1.out _ (((hHeld.2).setCell (p := ⟨g10, 0, none⟩) L10 (.int .i64 0)).setCell (p := ⟨g10, 1, none⟩) L10 (.int .i64 0)); generalize World.setCell (World.setCell (_) ⟨g10, 0, none⟩ (.int .i64 0)) ⟨g10, 1, none⟩ (.int .i64 0) = W10_13s at FF10 EE ⊢; clear fc0 ff0 fc1 ff1; replace F10 := FF10; clear FF10; refine hK.out _ _ (EE) (fun hHeld => ?_); clear hK K)
                        try simp only [Act.put, List.setIfInBounds_toArray, List.set_cons_zero, List.set_cons_succ]
                        refine wpAnyH_take (i := 12) (oi := ?ooa14_) (v := ?vva14_) ?hia14_ (by kernel_rfl) ?h3a14_ ?h4a14_ ?h5a14_ ?h6a14_ (by assumption) ?h8a14_
                        case hia14_ => (simp only [List.getElem?_toArray, List.getElem?_cons_succ, List.getElem?_cons_zero]; rfl)
                        case h3a14_ => kernel_rfl
                        case h4a14_ => kernel_rfl
                        case h6a14_ => (refine Or.inl ⟨by rfl, ?_⟩; intro w hSw; (try dsimp only at hSw); (go_simp <;> with_reducible rfl))
                        case h5a14_ => exact fun _ _ _ h => h
                        try simp only [Act.put, List.setIfInBounds_toArray, List.set_cons_zero, List.set_cons_succ]
                        refine wpAnyH_done (by kernel_rfl) ?_ _
                        clear HMK1
                        have B9 := bel_tr HB.out hHeld.2
                        clear hHeld F10 L10
                        go_wp2_with fail
                        go_ret
                        exact ⟨ret_bool HN.out.symm, bel_tr HBw.out B9⟩
                  case hka8_q1 =>
                    (rw [if_pos (by rfl)]; go_simp; have F10 : Hid (Blk (wq.alloc (.cells #[.int .i64 0, .int .i64 0] 58)).drew wq.heap.size 58 #[.int .i64 0, .int .i64 0]) := Blk.new wq 58 #[.int .i64 0, .int .i64 0]; have EE := HMK1.out (wq.alloc (.cells #[.int .i64 0, .int .i64 0] 58)).drew ((Below.refl _ wq).alloc (Nat.le_refl _) (.cells #[.int .i64 0, .int .i64 0] 58)).drew; have L10 : wq.heap.size ≤ wq.heap.size := Nat.le_refl _; generalize (wq.alloc (.cells #[.int .i64 0, .int .i64 0] 58)).drew = W10a at F10 EE ⊢; obtain ⟨g10, hgf⟩ : ∃ gf, gf = wq.heap.size := ⟨_, rfl⟩; rw [← hgf] at F10 ⊢; replace L10 : wq.heap.size ≤ g10 := (by omega); clear hgf; refine hK.out _ _ (EE) (fun hHeld => ?_); clear hK K)
                    try simp only [Act.put, List.setIfInBounds_toArray, List.set_cons_zero, List.set_cons_succ]
                    refine wpAnyH_ready (rs := [6]) (by kernel_rfl) (by simp) (AllReadyH.cons (o := ?ooa15_q0) ?hia15_q0 (fun K hK => ?hka15_q0) AllReadyH.nil)
                    case hia15_q0 => (simp only [List.getElem?_toArray, List.getElem?_cons_succ, List.getElem?_cons_zero]; rfl)
                    case hka15_q0 =>
                      (rw [if_pos (by rfl)]; go_simp; refine (iAddN _ P1.out).mono ?_; rintro e p6_ ⟨rfl, hb⟩; replace F10 := Lib.hid (F10.out.next hb); go_wp2_with fail; refine hK.out _ _ (HMK1.out _ (bel_tr hHeld.2 hb)) (fun hHeld => ?_); clear hK K)
                      try simp only [Act.put, List.setIfInBounds_toArray, List.set_cons_zero, List.set_cons_succ]
                      refine wpAnyH_take (i := 7) (oi := ?ooa16_) (v := ?vva16_) ?hia16_ (by kernel_rfl) ?h3a16_ ?h4a16_ ?h5a16_ ?h6a16_ (by assumption) ?h8a16_
                      case hia16_ => (simp only [List.getElem?_toArray, List.getElem?_cons_succ, List.getElem?_cons_zero]; rfl)
                      case h3a16_ => kernel_rfl
                      case h4a16_ => kernel_rfl
                      case h6a16_ => (refine Or.inl ⟨by rfl, ?_⟩; intro w hSw; (try dsimp only at hSw); (go_simp <;> with_reducible rfl))
                      case h5a16_ => exact fun _ _ _ h => h
                      try simp only [Act.put, List.setIfInBounds_toArray, List.set_cons_zero, List.set_cons_succ]
                      refine wpAnyH_take (i := 8) (oi := ?ooa17_) (v := ?vva17_) ?hia17_ (by kernel_rfl) ?h3a17_ ?h4a17_ ?h5a17_ ?h6a17_ (by assumption) ?h8a17_
                      case hia17_ => (simp only [List.getElem?_toArray, List.getElem?_cons_succ, List.getElem?_cons_zero]; rfl)
                      case h3a17_ => kernel_rfl
                      case h4a17_ => kernel_rfl
                      case h6a17_ => (refine Or.inl ⟨by rfl, ?_⟩; intro w hSw; (try dsimp only at hSw); (go_simp <;> with_reducible rfl))
                      case h5a17_ => exact fun _ _ _ h => h
                      try simp only [Act.put, List.setIfInBounds_toArray, List.set_cons_zero, List.set_cons_succ]
                      refine wpAnyH_take (i := 9) (oi := ?ooa18_) (v := ?vva18_) ?hia18_ (by kernel_rfl) ?h3a18_ ?h4a18_ ?h5a18_ ?h6a18_ (by assumption) ?h8a18_
                      case hia18_ => (simp only [List.getElem?_toArray, List.getElem?_cons_succ, List.getElem?_cons_zero]; rfl)
                      case h3a18_ => kernel_rfl
                      case h4a18_ => kernel_rfl
                      case h6a18_ => (refine Or.inl ⟨by rfl, ?_⟩; intro w hSw; (try dsimp only at hSw); (go_simp <;> with_reducible rfl))
                      case h5a18_ => exact fun _ _ _ h => h
                      try simp only [Act.put, List.setIfInBounds_toArray, List.set_cons_zero, List.set_cons_succ]
                      refine wpAnyH_ready (rs := [11]) (by kernel_rfl) (by simp) (AllReadyH.cons (o := ?ooa19_q0) ?hia19_q0 (fun K hK => ?hka19_q0) AllReadyH.nil)
                      case hia19_q0 => (simp only [List.getElem?_toArray, List.getElem?_cons_succ, List.getElem?_cons_zero]; rfl)
                      case hka19_q0 =>
                        (rw [if_pos (by rfl)]; have fc0 := F10.out.cell 0; have ff0 := F10.out.frozen 0; have fc1 := F10.out.cell 1; have ff1 := F10.out.frozen 1; simp only [List.getElem?_toArray, List.getElem?_cons_zero, List.getElem?_cons_succ] at fc0 fc1; go_simp; have FF10 : Hid (Blk _ g10 58 #[.int .i64 0, .int .i64 0]) := Lib.hid (((F10.out).set_ 0 (.int .i64 0)).set_ 1 (.int .i64 0)); have EE := HMK1.out _ (((hHeld.2).setCell (p := ⟨g10, 0, none⟩) L10 (.int .i64 0)).setCell (p := ⟨g10, 1, none⟩) L10 (.int .i64 0)); generalize World.setCell (World.setCell (_) ⟨g10, 0, none⟩ (.int .i64 0)) ⟨g10, 1, none⟩ (.int .i64 0) = W10_19s at FF10 EE ⊢; clear fc0 ff0 fc1 ff1; replace F10 := FF10; clear FF10; refine hK.out _ _ (EE) (fun hHeld => ?_); clear hK K)
                        try simp only [Act.put, List.setIfInBounds_toArray, List.set_cons_zero, List.set_cons_succ]
                        refine wpAnyH_take (i := 12) (oi := ?ooa20_) (v := ?vva20_) ?hia20_ (by kernel_rfl) ?h3a20_ ?h4a20_ ?h5a20_ ?h6a20_ (by assumption) ?h8a20_
                        case hia20_ => (simp only [List.getElem?_toArray, List.getElem?_cons_succ, List.getElem?_cons_zero]; rfl)
                        case h3a20_ => kernel_rfl
                        case h4a20_ => kernel_rfl
                        case h6a20_ => (refine Or.inl ⟨by rfl, ?_⟩; intro w hSw; (try dsimp only at hSw); (go_simp <;> with_reducible rfl))
                        case h5a20_ => exact fun _ _ _ h => h
                        try simp only [Act.put, List.setIfInBounds_toArray, List.set_cons_zero, List.set_cons_succ]
                        refine wpAnyH_done (by kernel_rfl) ?_ _
                        clear HMK1
                        have B9 := bel_tr HB.out hHeld.2
                        clear hHeld F10 L10
                        go_wp2_with fail
                        go_ret
                        exact ⟨ret_bool HN.out.symm, bel_tr HBw.out B9⟩
                | true =>
                  have HY : Hid (∀ j, j < k + 1 → frB (lentS ls ow t (j + 1)) = true) := HYES.out hf
                  obtain ⟨rn_, hr1⟩ : ∃ x, (lentS ls ow t (k + 1)).num = x := ⟨_, rfl⟩
                  obtain ⟨rd_, hr2⟩ : ∃ x, ((lentS ls ow t (k + 1)).den : Int) = x := ⟨_, rfl⟩
                  have P1 := Lib.hid (p1.trans hf)
                  have P2 := Lib.hid (p2.trans hr1)
                  have P3 := Lib.hid (p3.trans hr2)
                  have HR1 := Lib.hid hr1
                  have HR2 := Lib.hid hr2
                  clear p1 p2 p3 hf hr1 hr2
                  go_upto_region 8 with fail
                  go_quiet (fail)
                  go_upto_region 9 with fail
                  obtain ⟨wq, hwq⟩ : ∃ W, W = wr.drewN nq := ⟨_, rfl⟩
                  rw [← hwq]
                  have DQ : Below wr.heap.size wr wq := by rw [hwq]; exact below_drewN (Below.refl _ _) _
                  replace s0 := (DQ.cell (p := ⟨gS, 0, none⟩) lS).trans s0
                  replace s1 := (DQ.cell (p := ⟨gS, 1, none⟩) lS).trans s1
                  replace c2 := (DQ.cell (p := ⟨g, u + k * 6 + 2, none⟩) lg).trans c2
                  replace c3 := (DQ.cell (p := ⟨g, u + k * 6 + 3, none⟩) lg).trans c3
                  replace lS := Nat.lt_of_lt_of_le lS DQ.size
                  replace lg := Nat.lt_of_lt_of_le lg DQ.size
                  replace HKS := Lib.hid (HKS.out.next DQ)
                  replace HB := Lib.hid (bel_tr HB.out DQ)
                  clear hwq DQ c0 c4 c5 a0 a4
                  go_wp2_with fail
                  have HMK21 := Lib.hid (fun (W : World) (hW : Below wq.heap.size wq W) => (⟨⟨(hW.cell (p := ⟨gS, 0, none⟩) (lS)).trans s0, (hW.cell (p := ⟨gS, 1, none⟩) (lS)).trans s1, (hW.cell (p := ⟨g, u + k * 6 + 2, none⟩) (lg)).trans c2, (hW.cell (p := ⟨g, u + k * 6 + 3, none⟩) (lg)).trans c3⟩, hW⟩ : (W.cell? ⟨gS, 0, none⟩ = some (.int .i64 qn) ∧ W.cell? ⟨gS, 1, none⟩ = some (.int .i64 qd) ∧ W.cell? ⟨g, u + k * 6 + 2, none⟩ = some (.int .i64 n) ∧ W.cell? ⟨g, u + k * 6 + 3, none⟩ = some (.int .i64 d)) ∧ Below wq.heap.size wq W))
                  refine wp_region_held_drew (S := (fun w' => (w'.cell? ⟨gS, 0, none⟩ = some (.int .i64 qn) ∧ w'.cell? ⟨gS, 1, none⟩ = some (.int .i64 qd) ∧ w'.cell? ⟨g, u + k * 6 + 2, none⟩ = some (.int .i64 n) ∧ w'.cell? ⟨g, u + k * 6 + 3, none⟩ = some (.int .i64 d)) ∧ Below wq.heap.size wq w')) (by kernel_rfl) ?_ (fun hHeld => ?_)
                  · exact ⟨⟨s0, s1, c2, c3⟩, (Below.refl _ _).drew⟩
                  refine wpAnyH_take (i := 0) (oi := ?ooa22_) (v := ?vva22_) ?hia22_ (by kernel_rfl) ?h3a22_ ?h4a22_ ?h5a22_ ?h6a22_ (by assumption) ?h8a22_
                  case hia22_ => (simp only [List.getElem?_toArray, List.getElem?_cons_succ, List.getElem?_cons_zero]; rfl)
                  case h3a22_ => kernel_rfl
                  case h4a22_ => kernel_rfl
                  case h6a22_ => (refine Or.inl ⟨by rfl, ?_⟩; intro w hSw; (try dsimp only at hSw); (go_simp <;> with_reducible rfl))
                  case h5a22_ => exact fun _ _ _ h => h
                  try simp only [Act.put, List.setIfInBounds_toArray, List.set_cons_zero, List.set_cons_succ]
                  refine wpAnyH_take (i := 1) (oi := ?ooa23_) (v := ?vva23_) ?hia23_ (by kernel_rfl) ?h3a23_ ?h4a23_ ?h5a23_ ?h6a23_ (by assumption) ?h8a23_
                  case hia23_ => (simp only [List.getElem?_toArray, List.getElem?_cons_succ, List.getElem?_cons_zero]; rfl)
                  case h3a23_ => kernel_rfl
                  case h4a23_ => kernel_rfl
                  case h6a23_ => (refine Or.inl ⟨by rfl, ?_⟩; intro w hSw; (try dsimp only at hSw); (go_simp <;> with_reducible rfl))
                  case h5a23_ => exact fun _ _ _ h => h
                  try simp only [Act.put, List.setIfInBounds_toArray, List.set_cons_zero, List.set_cons_succ]
                  refine wpAnyH_take (i := 2) (oi := ?ooa24_) (v := ?vva24_) ?hia24_ (by kernel_rfl) ?h3a24_ ?h4a24_ ?h5a24_ ?h6a24_ (by assumption) ?h8a24_
                  case hia24_ => (simp only [List.getElem?_toArray, List.getElem?_cons_succ, List.getElem?_cons_zero]; rfl)
                  case h3a24_ => kernel_rfl
                  case h4a24_ => kernel_rfl
                  case h6a24_ => (refine Or.inl ⟨by rfl, ?_⟩; intro w hSw; (try dsimp only at hSw); (go_simp <;> with_reducible rfl))
                  case h5a24_ => exact fun _ _ _ h => h
                  try simp only [Act.put, List.setIfInBounds_toArray, List.set_cons_zero, List.set_cons_succ]
                  refine wpAnyH_take (i := 3) (oi := ?ooa25_) (v := ?vva25_) ?hia25_ (by kernel_rfl) ?h3a25_ ?h4a25_ ?h5a25_ ?h6a25_ (by assumption) ?h8a25_
                  case hia25_ => (simp only [List.getElem?_toArray, List.getElem?_cons_succ, List.getElem?_cons_zero]; rfl)
                  case h3a25_ => kernel_rfl
                  case h4a25_ => kernel_rfl
                  case h6a25_ => (refine Or.inl ⟨by rfl, ?_⟩; intro w hSw; (try dsimp only at hSw); (go_simp <;> with_reducible rfl))
                  case h5a25_ => exact fun _ _ _ h => h
                  try simp only [Act.put, List.setIfInBounds_toArray, List.set_cons_zero, List.set_cons_succ]
                  refine wpAnyH_take (i := 4) (oi := ?ooa26_) (v := ?vva26_) ?hia26_ (by kernel_rfl) ?h3a26_ ?h4a26_ ?h5a26_ ?h6a26_ (by assumption) ?h8a26_
                  case hia26_ => (simp only [List.getElem?_toArray, List.getElem?_cons_succ, List.getElem?_cons_zero]; rfl)
                  case h3a26_ => kernel_rfl
                  case h4a26_ => kernel_rfl
                  case h6a26_ => (refine Or.inl ⟨by rfl, ?_⟩; intro w hSw; (try dsimp only at hSw); (go_simp <;> with_reducible rfl))
                  case h5a26_ => exact fun _ _ _ h => h
                  try simp only [Act.put, List.setIfInBounds_toArray, List.set_cons_zero, List.set_cons_succ]
                  refine wpAnyH_take (i := 5) (oi := ?ooa27_) (v := ?vva27_) ?hia27_ (by kernel_rfl) ?h3a27_ ?h4a27_ ?h5a27_ ?h6a27_ (by assumption) ?h8a27_
                  case hia27_ => (simp only [List.getElem?_toArray, List.getElem?_cons_succ, List.getElem?_cons_zero]; rfl)
                  case h3a27_ => kernel_rfl
                  case h4a27_ => kernel_rfl
                  case h6a27_ => (refine Or.inl ⟨by rfl, ?_⟩; intro w hSw; (try dsimp only at hSw); (go_simp <;> with_reducible rfl))
                  case h5a27_ => exact fun _ _ _ h => h
                  try simp only [Act.put, List.setIfInBounds_toArray, List.set_cons_zero, List.set_cons_succ]
                  refine wpAnyH_ready (rs := [6, 10]) (by kernel_rfl) (by simp) (AllReadyH.cons (o := ?ooa28_q0) ?hia28_q0 (fun K hK => ?hka28_q0) (AllReadyH.cons (o := ?ooa28_q1) ?hia28_q1 (fun K hK => ?hka28_q1) AllReadyH.nil))
                  case hia28_q0 => (simp only [List.getElem?_toArray, List.getElem?_cons_succ, List.getElem?_cons_zero]; rfl)
                  case hia28_q1 => (simp only [List.getElem?_toArray, List.getElem?_cons_succ, List.getElem?_cons_zero]; rfl)
                  case hka28_q0 =>
                    (rw [if_pos (by rfl)]; go_simp; refine (iAddQ _ P1.out P2.out P3.out).mono ?_; rintro e p6_ ⟨rfl, hb⟩; go_wp2_with fail; refine hK.out _ _ (HMK21.out _ (bel_tr hHeld.2 hb)) (fun hHeld => ?_); clear hK K)
                    try simp only [Act.put, List.setIfInBounds_toArray, List.set_cons_zero, List.set_cons_succ]
                    refine wpAnyH_take (i := 7) (oi := ?ooa29_) (v := ?vva29_) ?hia29_ (by kernel_rfl) ?h3a29_ ?h4a29_ ?h5a29_ ?h6a29_ (by assumption) ?h8a29_
                    case hia29_ => (simp only [List.getElem?_toArray, List.getElem?_cons_succ, List.getElem?_cons_zero]; rfl)
                    case h3a29_ => kernel_rfl
                    case h4a29_ => kernel_rfl
                    case h6a29_ => (refine Or.inl ⟨by rfl, ?_⟩; intro w hSw; (try dsimp only at hSw); (go_simp <;> with_reducible rfl))
                    case h5a29_ => exact fun _ _ _ h => h
                    try simp only [Act.put, List.setIfInBounds_toArray, List.set_cons_zero, List.set_cons_succ]
                    refine wpAnyH_take (i := 8) (oi := ?ooa30_) (v := ?vva30_) ?hia30_ (by kernel_rfl) ?h3a30_ ?h4a30_ ?h5a30_ ?h6a30_ (by assumption) ?h8a30_
                    case hia30_ => (simp only [List.getElem?_toArray, List.getElem?_cons_succ, List.getElem?_cons_zero]; rfl)
                    case h3a30_ => kernel_rfl
                    case h4a30_ => kernel_rfl
                    case h6a30_ => (refine Or.inl ⟨by rfl, ?_⟩; intro w hSw; (try dsimp only at hSw); (go_simp <;> with_reducible rfl))
                    case h5a30_ => exact fun _ _ _ h => h
                    try simp only [Act.put, List.setIfInBounds_toArray, List.set_cons_zero, List.set_cons_succ]
                    refine wpAnyH_take (i := 9) (oi := ?ooa31_) (v := ?vva31_) ?hia31_ (by kernel_rfl) ?h3a31_ ?h4a31_ ?h5a31_ ?h6a31_ (by assumption) ?h8a31_
                    case hia31_ => (simp only [List.getElem?_toArray, List.getElem?_cons_succ, List.getElem?_cons_zero]; rfl)
                    case h3a31_ => kernel_rfl
                    case h4a31_ => kernel_rfl
                    case h6a31_ => (refine Or.inl ⟨by rfl, ?_⟩; intro w hSw; (try dsimp only at hSw); (go_simp <;> with_reducible rfl))
                    case h5a31_ => exact fun _ _ _ h => h
                    try simp only [Act.put, List.setIfInBounds_toArray, List.set_cons_zero, List.set_cons_succ]
                    refine wpAnyH_ready (rs := [10]) (by kernel_rfl) (by simp) (AllReadyH.cons (o := ?ooa32_q0) ?hia32_q0 (fun K hK => ?hka32_q0) AllReadyH.nil)
                    case hia32_q0 => (simp only [List.getElem?_toArray, List.getElem?_cons_succ, List.getElem?_cons_zero]; rfl)
                    case hka32_q0 =>
                      (rw [if_pos (by rfl)]; go_simp; have F10 := Lib.hid (Blk.new p6_ 58 #[.int .i64 0, .int .i64 0]); have EE := HMK21.out _ (hHeld.2.alloc hHeld.2.size (.cells #[.int .i64 0, .int .i64 0] 58)); have L10 := hHeld.2.size; generalize p6_.alloc (.cells #[.int .i64 0, .int .i64 0] 58) = W10a at F10 EE ⊢; generalize p6_.heap.size = g10 at F10 L10 ⊢; refine hK.out _ _ (EE) (fun hHeld => ?_); clear hK K)
                      try simp only [Act.put, List.setIfInBounds_toArray, List.set_cons_zero, List.set_cons_succ]
                      refine wpAnyH_ready (rs := [11]) (by kernel_rfl) (by simp) (AllReadyH.cons (o := ?ooa33_q0) ?hia33_q0 (fun K hK => ?hka33_q0) AllReadyH.nil)
                      case hia33_q0 => (simp only [List.getElem?_toArray, List.getElem?_cons_succ, List.getElem?_cons_zero]; rfl)
                      case hka33_q0 =>
                        (rw [if_pos (by rfl)]; have fc0 := F10.out.cell 0; have ff0 := F10.out.frozen 0; have fc1 := F10.out.cell 1; have ff1 := F10.out.frozen 1; simp only [List.getElem?_toArray, List.getElem?_cons_zero, List.getElem?_cons_succ] at fc0 fc1; go_simp; have FF10 : Hid (Blk _ g10 58 #[.int .i64 rn_, .int .i64 rd_]) := Lib.hid (((F10.out).set_ 0 (.int .i64 rn_)).set_ 1 (.int .i64 rd_)); have EE := HMK21.out _ (((hHeld.2).setCell (p := ⟨g10, 0, none⟩) L10 (.int .i64 rn_)).setCell (p := ⟨g10, 1, none⟩) L10 (.int .i64 rd_)); generalize World.setCell (World.setCell (_) ⟨g10, 0, none⟩ (.int .i64 rn_)) ⟨g10, 1, none⟩ (.int .i64 rd_) = W10_33s at FF10 EE ⊢; clear fc0 ff0 fc1 ff1; replace F10 := FF10; clear FF10; refine hK.out _ _ (EE) (fun hHeld => ?_); clear hK K)
                        try simp only [Act.put, List.setIfInBounds_toArray, List.set_cons_zero, List.set_cons_succ]
                        refine wpAnyH_take (i := 12) (oi := ?ooa34_) (v := ?vva34_) ?hia34_ (by kernel_rfl) ?h3a34_ ?h4a34_ ?h5a34_ ?h6a34_ (by assumption) ?h8a34_
                        case hia34_ => (simp only [List.getElem?_toArray, List.getElem?_cons_succ, List.getElem?_cons_zero]; rfl)
                        case h3a34_ => kernel_rfl
                        case h4a34_ => kernel_rfl
                        case h6a34_ => (refine Or.inl ⟨by rfl, ?_⟩; intro w hSw; (try dsimp only at hSw); (go_simp <;> with_reducible rfl))
                        case h5a34_ => exact fun _ _ _ h => h
                        try simp only [Act.put, List.setIfInBounds_toArray, List.set_cons_zero, List.set_cons_succ]
                        refine wpAnyH_done (by kernel_rfl) ?_ _
                        clear HMK21
                        have B9 := hHeld.2
                        have KS9 := HKS.out.next B9
                        have f9 := F10.out
                        obtain ⟨t0, t1, t2, t3, lt9⟩ := blk_two KS9
                        obtain ⟨v0, v1, _, _, _⟩ := blk_two f9
                        have HK3 := Lib.hid (KS9.two (.int .i64 rn_) (.int .i64 rd_))
                        have HB3 : Hid (∀ (W : World), W = _ → Below w4.heap.size w4 W) := fun W e => by rw [e]; exact ((bel_tr HB.out B9).setCell (p := ⟨gS, 0, none⟩) lgS (.int .i64 rn_)).setCell (p := ⟨gS, 1, none⟩) lgS (.int .i64 rd_)
                        clear hHeld F10 L10 B9 KS9 f9
                        go_wp2_with fail
                        go_roundw
                        case rel => exact ⟨k + 1, by omega, by go_num, HY.out, by rw [HR1.out, HR2.out]; exact HK3.out, HB3.out _ rfl⟩
                        case measure => simp [intOf]; omega
                  case hka28_q1 =>
                    (rw [if_pos (by rfl)]; go_simp; have F10 : Hid (Blk (wq.alloc (.cells #[.int .i64 0, .int .i64 0] 58)).drew wq.heap.size 58 #[.int .i64 0, .int .i64 0]) := Blk.new wq 58 #[.int .i64 0, .int .i64 0]; have EE := HMK21.out (wq.alloc (.cells #[.int .i64 0, .int .i64 0] 58)).drew ((Below.refl _ wq).alloc (Nat.le_refl _) (.cells #[.int .i64 0, .int .i64 0] 58)).drew; have L10 : wq.heap.size ≤ wq.heap.size := Nat.le_refl _; generalize (wq.alloc (.cells #[.int .i64 0, .int .i64 0] 58)).drew = W10a at F10 EE ⊢; obtain ⟨g10, hgf⟩ : ∃ gf, gf = wq.heap.size := ⟨_, rfl⟩; rw [← hgf] at F10 ⊢; replace L10 : wq.heap.size ≤ g10 := (by omega); clear hgf; refine hK.out _ _ (EE) (fun hHeld => ?_); clear hK K)
                    try simp only [Act.put, List.setIfInBounds_toArray, List.set_cons_zero, List.set_cons_succ]
                    refine wpAnyH_ready (rs := [6]) (by kernel_rfl) (by simp) (AllReadyH.cons (o := ?ooa35_q0) ?hia35_q0 (fun K hK => ?hka35_q0) AllReadyH.nil)
                    case hia35_q0 => (simp only [List.getElem?_toArray, List.getElem?_cons_succ, List.getElem?_cons_zero]; rfl)
                    case hka35_q0 =>
                      (rw [if_pos (by rfl)]; go_simp; refine (iAddQ _ P1.out P2.out P3.out).mono ?_; rintro e p6_ ⟨rfl, hb⟩; replace F10 := Lib.hid (F10.out.next hb); go_wp2_with fail; refine hK.out _ _ (HMK21.out _ (bel_tr hHeld.2 hb)) (fun hHeld => ?_); clear hK K)
                      try simp only [Act.put, List.setIfInBounds_toArray, List.set_cons_zero, List.set_cons_succ]
                      refine wpAnyH_take (i := 7) (oi := ?ooa36_) (v := ?vva36_) ?hia36_ (by kernel_rfl) ?h3a36_ ?h4a36_ ?h5a36_ ?h6a36_ (by assumption) ?h8a36_
                      case hia36_ => (simp only [List.getElem?_toArray, List.getElem?_cons_succ, List.getElem?_cons_zero]; rfl)
                      case h3a36_ => kernel_rfl
                      case h4a36_ => kernel_rfl
                      case h6a36_ => (refine Or.inl ⟨by rfl, ?_⟩; intro w hSw; (try dsimp only at hSw); (go_simp <;> with_reducible rfl))
                      case h5a36_ => exact fun _ _ _ h => h
                      try simp only [Act.put, List.setIfInBounds_toArray, List.set_cons_zero, List.set_cons_succ]
                      refine wpAnyH_take (i := 8) (oi := ?ooa37_) (v := ?vva37_) ?hia37_ (by kernel_rfl) ?h3a37_ ?h4a37_ ?h5a37_ ?h6a37_ (by assumption) ?h8a37_
                      case hia37_ => (simp only [List.getElem?_toArray, List.getElem?_cons_succ, List.getElem?_cons_zero]; rfl)
                      case h3a37_ => kernel_rfl
                      case h4a37_ => kernel_rfl
                      case h6a37_ => (refine Or.inl ⟨by rfl, ?_⟩; intro w hSw; (try dsimp only at hSw); (go_simp <;> with_reducible rfl))
                      case h5a37_ => exact fun _ _ _ h => h
                      try simp only [Act.put, List.setIfInBounds_toArray, List.set_cons_zero, List.set_cons_succ]
                      refine wpAnyH_take (i := 9) (oi := ?ooa38_) (v := ?vva38_) ?hia38_ (by kernel_rfl) ?h3a38_ ?h4a38_ ?h5a38_ ?h6a38_ (by assumption) ?h8a38_
                      case hia38_ => (simp only [List.getElem?_toArray, List.getElem?_cons_succ, List.getElem?_cons_zero]; rfl)
                      case h3a38_ => kernel_rfl
                      case h4a38_ => kernel_rfl
                      case h6a38_ => (refine Or.inl ⟨by rfl, ?_⟩; intro w hSw; (try dsimp only at hSw); (go_simp <;> with_reducible rfl))
                      case h5a38_ => exact fun _ _ _ h => h
                      try simp only [Act.put, List.setIfInBounds_toArray, List.set_cons_zero, List.set_cons_succ]
                      refine wpAnyH_ready (rs := [11]) (by kernel_rfl) (by simp) (AllReadyH.cons (o := ?ooa39_q0) ?hia39_q0 (fun K hK => ?hka39_q0) AllReadyH.nil)
                      case hia39_q0 => (simp only [List.getElem?_toArray, List.getElem?_cons_succ, List.getElem?_cons_zero]; rfl)
                      case hka39_q0 =>
                        (rw [if_pos (by rfl)]; have fc0 := F10.out.cell 0; have ff0 := F10.out.frozen 0; have fc1 := F10.out.cell 1; have ff1 := F10.out.frozen 1; simp only [List.getElem?_toArray, List.getElem?_cons_zero, List.getElem?_cons_succ] at fc0 fc1; go_simp; have FF10 : Hid (Blk _ g10 58 #[.int .i64 rn_, .int .i64 rd_]) := Lib.hid (((F10.out).set_ 0 (.int .i64 rn_)).set_ 1 (.int .i64 rd_)); have EE := HMK21.out _ (((hHeld.2).setCell (p := ⟨g10, 0, none⟩) L10 (.int .i64 rn_)).setCell (p := ⟨g10, 1, none⟩) L10 (.int .i64 rd_)); generalize World.setCell (World.setCell (_) ⟨g10, 0, none⟩ (.int .i64 rn_)) ⟨g10, 1, none⟩ (.int .i64 rd_) = W10_39s at FF10 EE ⊢; clear fc0 ff0 fc1 ff1; replace F10 := FF10; clear FF10; refine hK.out _ _ (EE) (fun hHeld => ?_); clear hK K)
                        try simp only [Act.put, List.setIfInBounds_toArray, List.set_cons_zero, List.set_cons_succ]
                        refine wpAnyH_take (i := 12) (oi := ?ooa40_) (v := ?vva40_) ?hia40_ (by kernel_rfl) ?h3a40_ ?h4a40_ ?h5a40_ ?h6a40_ (by assumption) ?h8a40_
                        case hia40_ => (simp only [List.getElem?_toArray, List.getElem?_cons_succ, List.getElem?_cons_zero]; rfl)
                        case h3a40_ => kernel_rfl
                        case h4a40_ => kernel_rfl
                        case h6a40_ => (refine Or.inl ⟨by rfl, ?_⟩; intro w hSw; (try dsimp only at hSw); (go_simp <;> with_reducible rfl))
                        case h5a40_ => exact fun _ _ _ h => h
                        try simp only [Act.put, List.setIfInBounds_toArray, List.set_cons_zero, List.set_cons_succ]
                        refine wpAnyH_done (by kernel_rfl) ?_ _
                        clear HMK21
                        have B9 := hHeld.2
                        have KS9 := HKS.out.next B9
                        have f9 := F10.out
                        obtain ⟨t0, t1, t2, t3, lt9⟩ := blk_two KS9
                        obtain ⟨v0, v1, _, _, _⟩ := blk_two f9
                        have HK3 := Lib.hid (KS9.two (.int .i64 rn_) (.int .i64 rd_))
                        have HB3 : Hid (∀ (W : World), W = _ → Below w4.heap.size w4 W) := fun W e => by rw [e]; exact ((bel_tr HB.out B9).setCell (p := ⟨gS, 0, none⟩) lgS (.int .i64 rn_)).setCell (p := ⟨gS, 1, none⟩) lgS (.int .i64 rd_)
                        clear hHeld F10 L10 B9 KS9 f9
                        go_wp2_with fail
                        go_roundw
                        case rel => exact ⟨k + 1, by omega, by go_num, HY.out, by rw [HR1.out, HR2.out]; exact HK3.out, HB3.out _ rfl⟩
                        case measure => simp [intOf]; omega
              · have e3 : decide (t < en) = false := decide_eq_false h3
                obtain ⟨y1, y2⟩ := HST.out (by rw [HLE.out, e3, Bool.and_false, Bool.and_false])
                have HY := Lib.hid y1
                have HK2 : Hid (Blk wr gS 58 #[.int .i64 (lentS ls o t (k + 1)).num, .int .i64 ((lentS ls o t (k + 1)).den : Int)]) := by rw [y2]; exact HKS.out
                clear h1 h2 h3 y1 y2
                go_upto_region 8 with fail
                go_quiet (fail)
                go_wp2_with fail
                go_roundw
                case rel => exact ⟨k + 1, by omega, by go_num, HY.out, HK2.out.drewN _, below_drewN HB.out _⟩
                case measure => simp [intOf]; omega
            · have e2 : decide (fr ≤ t) = false := decide_eq_false h2
              obtain ⟨y1, y2⟩ := HST.out (by rw [HLE.out, e2, Bool.false_and, Bool.and_false])
              have HY := Lib.hid y1
              have HK2 : Hid (Blk wr gS 58 #[.int .i64 (lentS ls o t (k + 1)).num, .int .i64 ((lentS ls o t (k + 1)).den : Int)]) := by rw [y2]; exact HKS.out
              clear h1 h2 y1 y2
              go_upto_region 8 with fail
              go_quiet (fail)
              go_wp2_with fail
              go_roundw
              case rel => exact ⟨k + 1, by omega, by go_num, HY.out, HK2.out.drewN _, below_drewN HB.out _⟩
              case measure => simp [intOf]; omega
          · have e1 : (ow == o) = false := by simpa using h1
            obtain ⟨y1, y2⟩ := HST.out (by rw [HLE.out, decide_eq_false h1, Bool.false_and])
            have HY := Lib.hid y1
            have HK2 : Hid (Blk wr gS 58 #[.int .i64 (lentS ls o t (k + 1)).num, .int .i64 ((lentS ls o t (k + 1)).den : Int)]) := by rw [y2]; exact HKS.out
            clear h1 y1 y2
            go_upto_region 8 with fail
            go_quiet (fail)
            go_wp2_with fail
            go_roundw
            case rel => exact ⟨k + 1, by omega, by go_num, HY.out, HK2.out.drewN _, below_drewN HB.out _⟩
            case measure => simp [intOf]; omega
        · obtain rfl : k = ls.length := by omega
          have HOK : Hid (lentOk ls o t = true) := (rng_all _ _).2 HF.out
          have HB2 := Lib.hid (bel_tr HBw.out BQ)
          clear KS BQ
          go_wp2_with fail
          go_roundw
          case rel => exact ⟨i + 1, by omega, by go_num, HMR.out HOK.out, HB2.out⟩
          case measure => simp [intOf]; omega
    · obtain rfl : i = ls.length := by omega
      have HS := Lib.hid (sums_all HA.out)
      go_wp2_with fail
      go_ret
      exact ⟨ret_bool HS.out.symm, hB⟩
end Go.Proofs.Ytaehemmjemhgpaa
