/- For every input the law answers true, and its argument reads afterwards as before: the best plots are the best. No condition. -/
import Derived.Test.YtigapnbpgbfbhacRows
import Derived.Test.YtigapnbpgbfbhacDrawPl
import Derived.Test.YtigapnbpgbfbhacPloT
import Derived.Test.YtigapnbpgbfbhacPloQ
import Derived.Test.YtigapnbpgbfbhacLawIn
import Derived.Test.YtigapnbpgbfbhacEqI
import Derived.WalkKit
import Derived.Deep.RegionHeld3
import Derived.Deep.RegionWith
import Derived.Deep.QuietTactic
import Derived.BigQuiet
import Derived.RegionTactic
import Derived.ChangeAlike
import Derived.BigRegion
import Derived.ProofKit
import Derived.OpenShut
import Derived.ShutString
import Derived.ChangeOld
import Derived.Below
import Derived.Lib.SmallJoins
namespace Go.Proofs.Ytigapnbpgbfbhac.fnBestPlots
open Go.ChangeShapes Go.WideShapes Go.ChangeAt Go.RowKit Go.Joins
open Go.ChangeMaps (open_string shut_string)
set_option linter.unusedVariables false
set_option linter.unusedSimpArgs false

theorem own : ownKnob Try.prog.godebug = none := by kernel_rfl
theorem laidOut : laidOutB Try.prog = true := by kernel_rfl

set_option maxRecDepth 100000 in
set_option maxHeartbeats 8000000 in
theorem walk (a0 : Option Addr) (len0 cap0 : Nat) (z0 : List Int) (w : World) (w0 : IsRow .u8 w a0 len0 cap0 z0) :
    Calls Try.prog 9 #[.slice a0 len0 cap0] w fun e w' => e = .returned (.bool true) ∧ Below w.heap.size w w' := by
  by_cases big : (1048576 : Int) < (len0 : Int)
  · go_enter Try.func9, Try.ntmps9
    go_wp2
    go_ret
    exact ⟨rfl, Below.refl _ _⟩
  go_enter Try.func9, Try.ntmps9
  go_wp2_with fail
  refine (drawBP a0 len0 cap0 z0 _ w0).mono ?_
  rintro e u1 ⟨b1, cp, xs, u, rfl, ⟨q0, q1⟩, l6, hlc, IR, B⟩
  clear w0 big
  have n1 : xs.length ≤ 1048576 := by omega
  obtain ⟨V, hV⟩ : ∃ V, bpV xs u = V := ⟨_, rfl⟩
  have hVl : V.length ≤ 1048576 := by rw [← hV]; exact Nat.le_trans (bpV_len _ _) n1
  have HI : Hid (∀  (W : World), (h1 : IsPl W b1 xs) → Calls Try.prog 20 #[.slice b1 xs.length cp, .int .i64 u] W (OutI W V)) := fun  W h1 => by rw [← hV]; exact iBP b1 cp xs u W h1 n1 hlc
  have HS : Hid (∀  (W : World), (h1 : IsPl W b1 xs) → Calls Try.prog 19 #[.slice b1 xs.length cp, .int .i64 u] W (OutI W V)) := fun  W h1 => by rw [← hV]; exact sBP b1 cp xs u W h1 n1
  have HQ : Hid (∀ (b : Option Addr) (b' : Option Addr) (c : Nat) (c' : Nat) (W : World), (h1 : IsInts W b V) → (h2 : IsInts W b' V) → Calls Try.prog 31 #[.slice b V.length c, .slice b' V.length c'] W (fun e w' => e = .returned (.bool true) ∧ Below W.heap.size W w')) := fun b b' c c' W h1 h2 => eqInts b b' c c' V W h1 h2 hVl
  cases hv : vpB xs with
  | false =>
    have HV : Hid (∀  (W : World), (h1 : IsPl W b1 xs) → Calls Try.prog 15 #[.slice b1 xs.length cp] W (fun e w' => e = .returned (.bool false) ∧ Below W.heap.size W w')) := fun  W h1 => by have h := iVP b1 cp xs W h1 n1; rw [hv] at h; exact h
    clear hV hv hVl
    go_wp2_with fail
    refine (HI.out _ IR).mono ?_
    rintro e u2_ ⟨vo, rfl, Oo, C_⟩
    obtain ⟨bo, co, rfl, Io⟩ := Oo.ints
    clear Oo
    replace B := bel_tr B C_
    replace IR := pl_below IR C_
    clear C_
    go_wp2_with fail
    refine (HS.out _ IR).mono ?_
    rintro e u3_ ⟨vp, rfl, Op, C_⟩
    obtain ⟨bp, cp, rfl, Ip⟩ := Op.ints
    clear Op
    replace B := bel_tr B C_
    replace IR := pl_below IR C_
    replace Io := ints_below Io C_
    clear C_
    go_wp2_with fail
    refine (HQ.out _ _ _ _ _ Io Ip).mono ?_
    rintro e u4_ ⟨rfl, C_⟩
    replace B := bel_tr B C_
    replace IR := pl_below IR C_
    replace Io := ints_below Io C_
    replace Ip := ints_below Ip C_
    clear C_
    go_wp2_with fail
    clear Ip
    refine (HV.out _ IR).mono ?_
    rintro e u5_ ⟨rfl, C_⟩
    replace B := bel_tr B C_
    replace IR := pl_below IR C_
    replace Io := ints_below Io C_
    clear C_
    go_wp2_with fail
    refine (HS.out _ IR).mono ?_
    rintro e u6_ ⟨vq, rfl, Oq, C_⟩
    obtain ⟨bq, cq, rfl, Iq⟩ := Oq.ints
    clear Oq
    replace B := bel_tr B C_
    replace IR := pl_below IR C_
    replace Io := ints_below Io C_
    clear C_
    go_wp2_with fail
    refine (HQ.out _ _ _ _ _ Io Iq).mono ?_
    rintro e u7_ ⟨rfl, C_⟩
    replace B := bel_tr B C_
    replace IR := pl_below IR C_
    replace Io := ints_below Io C_
    replace Iq := ints_below Iq C_
    clear C_
    go_wp2_with fail
    go_ret
    exact ⟨rfl, B⟩
  | true =>
  have HV : Hid (∀  (W : World), (h1 : IsPl W b1 xs) → Calls Try.prog 15 #[.slice b1 xs.length cp] W (fun e w' => e = .returned (.bool true) ∧ Below W.heap.size W w')) := fun  W h1 => by have h := iVP b1 cp xs W h1 n1; rw [hv] at h; exact h
  by_cases hq : 0 ≤ u ∧ u ≤ 500
  rotate_left
  · have HQ1 := Lib.hid hq
    by_cases hu : u < 0
    · have d0 : decide (u < 0) = true := decide_eq_true hu
      clear hV hv hVl hq hu q0 q1
      go_wp2_with fail
      refine (HI.out _ IR).mono ?_
      rintro e u2_ ⟨vo, rfl, Oo, C_⟩
      obtain ⟨bo, co, rfl, Io⟩ := Oo.ints
      clear Oo
      replace B := bel_tr B C_
      replace IR := pl_below IR C_
      clear C_
      go_wp2_with fail
      refine (HS.out _ IR).mono ?_
      rintro e u3_ ⟨vp, rfl, Op, C_⟩
      obtain ⟨bp, cp, rfl, Ip⟩ := Op.ints
      clear Op
      replace B := bel_tr B C_
      replace IR := pl_below IR C_
      replace Io := ints_below Io C_
      clear C_
      go_wp2_with fail
      refine (HQ.out _ _ _ _ _ Io Ip).mono ?_
      rintro e u4_ ⟨rfl, C_⟩
      replace B := bel_tr B C_
      replace IR := pl_below IR C_
      replace Io := ints_below Io C_
      replace Ip := ints_below Ip C_
      clear C_
      go_wp2_with fail
      clear Ip
      refine (HV.out _ IR).mono ?_
      rintro e u5_ ⟨rfl, C_⟩
      replace B := bel_tr B C_
      replace IR := pl_below IR C_
      replace Io := ints_below Io C_
      clear C_
      go_wp2_with fail
      refine (HS.out _ IR).mono ?_
      rintro e u6_ ⟨vq, rfl, Oq, C_⟩
      obtain ⟨bq, cq, rfl, Iq⟩ := Oq.ints
      clear Oq
      replace B := bel_tr B C_
      replace IR := pl_below IR C_
      replace Io := ints_below Io C_
      clear C_
      go_wp2_with fail
      refine (HQ.out _ _ _ _ _ Io Iq).mono ?_
      rintro e u7_ ⟨rfl, C_⟩
      replace B := bel_tr B C_
      replace IR := pl_below IR C_
      replace Io := ints_below Io C_
      replace Iq := ints_below Iq C_
      clear C_
      go_wp2_with fail
      go_ret
      exact ⟨rfl, B⟩
    · have d0 : decide (u < 0) = false := decide_eq_false hu
      have d1 : decide (500 < u) = true := decide_eq_true (by omega)
      clear hV hv hVl hq hu q0 q1
      go_wp2_with fail
      refine (HI.out _ IR).mono ?_
      rintro e u2_ ⟨vo, rfl, Oo, C_⟩
      obtain ⟨bo, co, rfl, Io⟩ := Oo.ints
      clear Oo
      replace B := bel_tr B C_
      replace IR := pl_below IR C_
      clear C_
      go_wp2_with fail
      refine (HS.out _ IR).mono ?_
      rintro e u3_ ⟨vp, rfl, Op, C_⟩
      obtain ⟨bp, cp, rfl, Ip⟩ := Op.ints
      clear Op
      replace B := bel_tr B C_
      replace IR := pl_below IR C_
      replace Io := ints_below Io C_
      clear C_
      go_wp2_with fail
      refine (HQ.out _ _ _ _ _ Io Ip).mono ?_
      rintro e u4_ ⟨rfl, C_⟩
      replace B := bel_tr B C_
      replace IR := pl_below IR C_
      replace Io := ints_below Io C_
      replace Ip := ints_below Ip C_
      clear C_
      go_wp2_with fail
      clear Ip
      refine (HV.out _ IR).mono ?_
      rintro e u5_ ⟨rfl, C_⟩
      replace B := bel_tr B C_
      replace IR := pl_below IR C_
      replace Io := ints_below Io C_
      clear C_
      go_wp2_with fail
      refine (HS.out _ IR).mono ?_
      rintro e u6_ ⟨vq, rfl, Oq, C_⟩
      obtain ⟨bq, cq, rfl, Iq⟩ := Oq.ints
      clear Oq
      replace B := bel_tr B C_
      replace IR := pl_below IR C_
      replace Io := ints_below Io C_
      clear C_
      go_wp2_with fail
      refine (HQ.out _ _ _ _ _ Io Iq).mono ?_
      rintro e u7_ ⟨rfl, C_⟩
      replace B := bel_tr B C_
      replace IR := pl_below IR C_
      replace Io := ints_below Io C_
      replace Iq := ints_below Iq C_
      clear C_
      go_wp2_with fail
      go_ret
      exact ⟨rfl, B⟩
  obtain ⟨w0, w5⟩ := hq
  obtain ⟨M, hM⟩ : ∃ M : Nat, u = (M : Int) := ⟨u.toNat, by omega⟩
  subst hM
  have hw := wp_yes hv w0 w5
  rw [bpV_yes hw] at hV
  obtain ⟨f1, f2, f3, f4⟩ := sel_facts hv xs.length M (Nat.le_refl _)
  have hpn := sel_pn hv M
  have hadd := fun i hi hn => sel_add hv (w := M) (i := i) hi hn
  have hswap := fun (i : Nat) hi hn (z : Int) hz => sel_swap hv (w := M) (i := i) hi hn (z := z) hz
  have hasc := sel_asc xs xs.length M
  have hbd := ptsum_bd hv (selTo xs xs.length M) (fun z hz => by have := f3 z hz; omega)
  have hl := sel_len xs xs.length M
  rw [hV] at f1 f2 f3 hpn hadd hswap hasc hbd hl
  obtain ⟨N, hN⟩ : ∃ N, needS xs V = N := ⟨_, rfl⟩
  obtain ⟨Y, hY⟩ : ∃ Y, yldS xs V = Y := ⟨_, rfl⟩
  rw [hN] at f1 hadd hswap hbd
  rw [hY] at f2 hbd
  have l10 := (vp_is hv).1
  have n2 : V.length ≤ 1048576 := by omega
  have HADD : Hid (∀ i, i < xs.length → (i : Int) ∉ V → (M : Int) < N + (xs.getD i pl0).1) := fun i hi hn => hadd i hi hn
  have HSWP : Hid (∀ i, i < xs.length → (i : Int) ∉ V → ∀ z ∈ V, N + (xs.getD i pl0).1 - (xs.getD z.toNat pl0).1 ≤ (M : Int) → (xs.getD i pl0).2 ≤ (xs.getD z.toNat pl0).2) := fun i hi hn z hz => hswap i hi hn z hz
  have HZB := Lib.hid f3
  have HVA : Hid (∀ k, k < xs.length → (0 ≤ (xs.getD k pl0).1 ∧ (xs.getD k pl0).1 ≤ 500)) := fun k hk => (vp_at hv hk).1
  have HN : Hid (∀ (b : Option Addr) (c : Nat) (W : World), (hc : V.length ≤ c) → (h1 : IsPl W b1 xs) → (h2 : IsInts W b V) → Calls Try.prog 27 #[.slice b1 xs.length cp, .slice b V.length c] W (fun e w' => e = .returned (.tuple #[.int .i64 N, .int .i64 Y]) ∧ Below W.heap.size W w')) := fun b c W hc h1 h2 => by have h := iPN b1 b cp c xs V W h1 h2 n1 n2 hc; rw [(pn_val hpn).1, (pn_val hpn).2, hN, hY] at h; exact h
  have HBY : Hid (∀  (W : World), (h1 : IsPl W b1 xs) → Calls Try.prog 18 #[.slice b1 xs.length cp, .int .i64 (M : Int)] W (fun e w' => e = .returned (.int .i64 Y) ∧ Below W.heap.size W w')) := fun  W h1 => by have h := iBY b1 cp xs (M : Int) W h1 n1; rw [byV_yes hw, ← f2] at h; exact h
  have HIN : Hid (∀ (b : Option Addr) (c : Nat) (i : Int) (W : World), (h1 : IsInts W b V) → Calls Try.prog 32 #[.slice b V.length c, .int .i64 i] W (fun e w' => e = .returned (.bool (decide (i ∈ V))) ∧ W = w')) := fun b c i W h1 => lisIn b c V i W h1 n2
  have HAS : Hid (∀ (b : Option Addr) (c : Nat) (W : World), (h1 : IsInts W b V) → Calls Try.prog 33 #[.slice b V.length c] W (fun e w' => e = .returned (.bool true) ∧ Below W.heap.size W w')) := fun b c W h1 => lasc b c V W h1 n2 hasc
  have hb0 := hbd.1.1
  have hb1 : N ≤ 5000 := by omega
  have dM0 : decide ((M : Int) < 0) = false := decide_eq_false (by omega)
  have dM5 : decide (500 < (M : Int)) = false := decide_eq_false (by omega)
  have dN : decide (N ≤ (M : Int)) = true := decide_eq_true f1
  clear hV hv hw f1 f2 f3 f4 hpn hadd hswap hasc hbd hl hN hY hVl w0 q0 q1
  go_wp2_with fail
  refine (HI.out _ IR).mono ?_
  rintro e u2_ ⟨vo, rfl, Oo, C_⟩
  obtain ⟨bo, co, rfl, Io⟩ := Oo.ints
  have hco := own_capP Oo
  clear Oo
  replace B := bel_tr B C_
  replace IR := pl_below IR C_
  clear C_
  go_wp2_with fail
  refine (HS.out _ IR).mono ?_
  rintro e u3_ ⟨vp, rfl, Op, C_⟩
  obtain ⟨bp, cp, rfl, Ip⟩ := Op.ints
  clear Op
  replace B := bel_tr B C_
  replace IR := pl_below IR C_
  replace Io := ints_below Io C_
  clear C_
  go_wp2_with fail
  refine (HQ.out _ _ _ _ _ Io Ip).mono ?_
  rintro e u4_ ⟨rfl, C_⟩
  replace B := bel_tr B C_
  replace IR := pl_below IR C_
  replace Io := ints_below Io C_
  replace Ip := ints_below Ip C_
  clear C_
  go_wp2_with fail
  clear Ip
  refine (HV.out _ IR).mono ?_
  rintro e u5_ ⟨rfl, C_⟩
  replace B := bel_tr B C_
  replace IR := pl_below IR C_
  replace Io := ints_below Io C_
  clear C_
  go_wp2_with fail
  refine (HN.out _ _ _ hco IR Io).mono ?_
  rintro e u6_ ⟨rfl, C_⟩
  replace B := bel_tr B C_
  replace IR := pl_below IR C_
  replace Io := ints_below Io C_
  clear C_
  go_wp2_with fail
  clear HI HS HQ HV HN
  have HIR := Lib.hid IR
  have HIo := Lib.hid Io
  have HB0 := Lib.hid B
  clear B IR Io
  go_loopw [8] (fun i wr => ∃ k : Nat, k ≤ xs.length ∧ i = .int .i64 k ∧ Below u6_.heap.size u6_ wr) (fun i _ => xs.length - (intOf i).toNat)
  case atStart => exact ⟨0, Nat.zero_le _, rfl, Below.refl _ _⟩
  case round =>
    obtain ⟨k, hk, rfl, hB⟩ := hrel
    by_cases hlt : k < xs.length
    · have CIN := HIN.out bo co (k : Int) wr (ints_below HIo.out hB)
      have wk : IntKind.i64.wrap ((k : Int) + 1) = (k : Int) + 1 := by rw [IntKind.wrap_i64]; omega
      have HB := Lib.hid hB
      clear hB
      by_cases hm : (k : Int) ∈ V
      · rw [decide_eq_true hm] at CIN
        clear hm
        go_wp2_with fail
        refine CIN.mono ?_
        rintro e w' ⟨rfl, rfl⟩
        go_wp2_with fail
        go_roundw
        case rel => exact ⟨k + 1, by omega, by go_num, HB.out⟩
        case measure => simp [intOf]; omega
      · rw [decide_eq_false hm] at CIN
        have IR2 := pl_below HIR.out HB.out
        rcases IR2 with hnil | ⟨g, oo, rfl, hc⟩
        · rw [hnil] at hlt; exact absurd hlt (Nat.not_lt_zero _)
        obtain ⟨c0, c1⟩ := hc k hlt
        have ha := HADD.out k hlt hm
        have HSW := Lib.hid (HSWP.out k hlt hm)
        have hva := HVA.out k hlt
        have HKI := Lib.hid (show IsPl wr (some ⟨g, oo, none⟩) xs from .inr ⟨g, oo, rfl, hc⟩)
        have k0 : (0 : Int) ≤ (k : Int) := by omega
        have kx : (k : Int) < (xs.length : Int) := by omega
        generalize xs.getD k pl0 = r at c0 c1 ha HSW hva
        obtain ⟨x0, x1⟩ := r
        dsimp only at c0 c1 ha HSW hva
        have HC0 := Lib.hid c0
        have HC1 := Lib.hid c1
        have ws : IntKind.i64.wrap (N + x0) = N + x0 := by rw [IntKind.wrap_i64]; omega
        have dn : decide (N + x0 ≤ (M : Int)) = false := decide_eq_false (by omega)
        clear hc hm ha c1
        go_wp2_with fail
        refine CIN.mono ?_
        rintro e w' ⟨rfl, rfl⟩
        go_wp2_with fail
        clear c0
        obtain ⟨wo, hwo⟩ : ∃ W, W = wr := ⟨_, rfl⟩
        subst hwo
        go_loopw [9] (fun i wi => ∃ j : Nat, j ≤ V.length ∧ i = .int .i64 j ∧ Below wo.heap.size wo wi) (fun i _ => V.length - (intOf i).toNat)
        case atStart => exact ⟨0, Nat.zero_le _, rfl, Below.refl _ _⟩
        case round =>
          obtain ⟨j, hj, rfl, hB⟩ := hrel
          by_cases hjl : j < V.length
          · have Ir := ints_below HIo.out (bel_tr HB.out hB)
            have IPr := pl_below HKI.out hB
            have hzm : V.getD j 0 ∈ V := by rw [List.getD_eq_getElem?_getD, List.getElem?_eq_getElem hjl]; exact List.getElem_mem _
            obtain ⟨z0, z1⟩ := HZB.out _ hzm
            have hsw := HSW.out _ hzm
            rcases Ir with hnil | ⟨gv, ov, rfl, hv⟩
            · rw [hnil] at hjl; exact absurd hjl (Nat.not_lt_zero _)
            have cv := hv j hjl
            obtain ⟨m, hm⟩ : ∃ m : Nat, V.getD j 0 = (m : Int) := ⟨(V.getD j 0).toNat, by omega⟩
            rw [hm] at cv z0 z1 hsw
            rw [show ((m : Int)).toNat = m from by omega] at hsw
            have hml : m < xs.length := by omega
            rcases IPr with hnil | ⟨g2, oo2, he, hc2⟩
            · rw [hnil] at hml; exact absurd hml (Nat.not_lt_zero _)
            injection he with he; injection he with he1 he2; subst he1 he2
            obtain ⟨s0, s1⟩ := hc2 m hml
            obtain ⟨t0, t1⟩ := hc2 k hlt
            have hvm := HVA.out m hml
            have et0 : (xs.getD k pl0).1 = x0 := by
              have h1 := (hB.cell (p := ⟨g, oo + k * 2, none⟩) (World.block_lt_of_cell? _ _ HC0.out)).trans HC0.out
              rw [t0] at h1; injection h1 with h1; injection h1
            have et1 : (xs.getD k pl0).2 = x1 := by
              have h1 := (hB.cell (p := ⟨g, oo + k * 2 + 1, none⟩) (World.block_lt_of_cell? _ _ HC1.out)).trans HC1.out
              rw [t1] at h1; injection h1 with h1; injection h1
            rw [et0] at t0
            rw [et1] at t1
            generalize (xs.getD m pl0).1 = n0 at s0 hsw hvm
            generalize (xs.getD m pl0).2 = n1_ at s1 hsw
            have ws2 : IntKind.i64.wrap (N + x0 - n0) = N + x0 - n0 := by rw [IntKind.wrap_i64]; omega
            have wj : IntKind.i64.wrap ((j : Int) + 1) = (j : Int) + 1 := by rw [IntKind.wrap_i64]; omega
            have j0 : (0 : Int) ≤ (j : Int) := by omega
            have jx : (j : Int) < (V.length : Int) := by omega
            have HBi := Lib.hid hB
            have HM_ := Lib.hid hm
            clear hv hc2 hB hm hzm et0 et1
            by_cases c : N + x0 - n0 ≤ (M : Int)
            · have d1 : decide (N + x0 - n0 ≤ (M : Int)) = true := decide_eq_true c
              have d2 : decide (n1_ < x1) = false := decide_eq_false (by have := hsw c; omega)
              clear hsw c
              go_wp2_with fail
              go_quiet (fail)
              go_wp2_with fail
              go_roundw
              case rel => exact ⟨j + 1, by omega, by go_num, below_drewN HBi.out _⟩
              case measure => simp [intOf]; omega
            · have d1 : decide (N + x0 - n0 ≤ (M : Int)) = false := decide_eq_false c
              clear hsw c
              go_wp2_with fail
              go_quiet (fail)
              go_wp2_with fail
              go_roundw
              case rel => exact ⟨j + 1, by omega, by go_num, below_drewN HBi.out _⟩
              case measure => simp [intOf]; omega
          · have HB2 := Lib.hid (bel_tr HB.out hB)
            clear hB
            go_wp2_with fail
            go_roundw
            case rel => exact ⟨k + 1, by omega, by go_num, HB2.out⟩
            case measure => simp [intOf]; omega
    · have IR2 := pl_below HIR.out hB
      have Ir := ints_below HIo.out hB
      have HB2 := Lib.hid (bel_tr HB0.out hB)
      clear hB
      go_wp2_with fail
      refine (HBY.out _ IR2).mono ?_
      rintro e w8 ⟨rfl, C8⟩
      have Ir8 := ints_below Ir C8
      go_wp2_with fail
      refine (HAS.out _ _ _ Ir8).mono ?_
      rintro e w9 ⟨rfl, C9⟩
      have HB3 := Lib.hid (bel_tr HB2.out (bel_tr C8 C9))
      clear C8 C9
      go_wp2_with fail
      go_ret
      exact ⟨rfl, HB3.out⟩

set_option maxRecDepth 100000 in
theorem lifted (os : Os) (started : os.Started) (H : Type) (enc : TypeId × Value → H) :
    ReturnsInHanded {} Try.checked os 9 .any (Rows.fnBestPlotsSpec.pre6 enc Try.prog Try.f9 Rows.fnBestPlotsRow.domain false) (Rows.fnBestPlotsSpec.post enc Try.prog Try.f9 false true false false) := by
  refine returnsInHanded_of_change (C := Try.checked) own started (by kernel_rfl) Try.func9
    (ChangeSpec.witness6 (enc := enc) (C := Try.checked) false ⟨#[], #[.slice none 0 0], []⟩ 8 (by kernel_rfl) (by kernel_rfl) (by kernel_rfl) (by kernel_rfl)) ?_
  intro W base args ds gs before hval0 hW hcnd _
  have hval : ∀ (j : Nat) t v, Try.f9.params[j]? = some t → args[j]? = some v → Value.okWide Try.prog W .any base t v := hval0
  have hW' := hW
  obtain ⟨p, q, hA0, hV, rfl, hfz, hnd⟩ := hW
  have hA : DataW.TrodAll enc Try.prog W 0 (fun _ => true) true Try.f9.params.toList args.toList ds p := hA0
  rw [Try.params9] at hA hval
  obtain ⟨v0, vs0, e0, es0, p0, q0, hargs, rfl, rfl, h0, r0⟩ := trodAll_cons hA
  obtain ⟨rfl, rfl, rfl⟩ := trodAll_nil r0
  obtain rfl : args = #[v0] := by cases args; simp_all
  obtain ⟨rfl, rfl⟩ := trodVars_none hV
  have k0 := h0
  have lt0 : ∀ x ∈ p0, x.block < W.heap.size := by obtain ⟨m, hm⟩ := k0; exact DataW.trod_lt m _ _ _ hm
  obtain ⟨a0, len0, cap0, rfl⟩ := okWide_slice Try.underlying39 (hval 0 39 v0 rfl rfl)
  obtain ⟨z0, w0⟩ : ∃ zs, IsRow .u8 W a0 len0 cap0 zs := by
    obtain ⟨fuel, hf⟩ := h0
    rcases open_ints Try.underlying39 Try.underlying5 (by kernel_rfl) hf with ⟨hcs, _⟩ | ⟨x, l, c, zs, hcs, _, hl, hm, hz, _, hcell, hwz⟩
    · simp [Value.cells] at hcs
      obtain ⟨rfl, rfl, rfl⟩ := hcs
      exact ⟨[], .inl ⟨rfl, rfl, rfl, rfl⟩⟩
    · simp [Value.cells] at hcs
      obtain ⟨rfl, rfl, rfl⟩ := hcs
      exact ⟨zs, .inr ⟨_, rfl, hl, hm, by simpa using hz, hcell, hwz⟩⟩
  clear hA0 hval0
  refine (walk a0 len0 cap0 z0 W w0).mono fun e W' ⟨he, bel⟩ => ?_
  subst he
  exact ⟨_, rfl, _, _, _, [], _, [], hW', trodAll_mk1 (shut_bool Try.underlying4 _), (trodAll_cons_mk (Below.trod laidOut (by kernel_rfl) (of_decide_eq_true (by kernel_rfl)) k0 bel lt0) trodAll_mk0), rfl, bel.frame _, fun h => by cases h⟩

theorem over : Rows.fnBestPlotsRow.holds Try.pinned (OpenSpec.ofChange Rows.fnBestPlotsSpec) :=
  OpenClaim.holds_of_wide 9 Try.f9 rfl rfl rfl rfl rfl rfl rfl ⟨rfl, rfl, rfl, rfl, rfl⟩ rfl rfl rfl rfl rfl (by kernel_rfl) Try.func9 (by kernel_rfl)
    (of_decide_eq_true (by kernel_rfl)) (by unfold Func.isWrapper; first | (rw [if_pos (by decide +kernel)]; kernel_rfl) | (rw [if_neg (by decide +kernel)]; exact ⟨rfl, rfl⟩))
    (fun os started H enc _ => lifted os started H enc)

end Go.Proofs.Ytigapnbpgbfbhac.fnBestPlots
namespace Go.Proofs.Ytigapnbpgbfbhac
/-- the statement -/
theorem fnBestPlots_holds : Rows.FnBestPlotsSaid := fnBestPlots.over
end Go.Proofs.Ytigapnbpgbfbhac
