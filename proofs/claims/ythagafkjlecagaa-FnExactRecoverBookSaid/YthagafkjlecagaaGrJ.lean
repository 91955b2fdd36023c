/- Contracts and facts of functions of this program, in build order. Conditions: those stated in each. -/
import Derived.Test.YthagafkjlecagaaGrG
import Derived.Test.YthagafkjlecagaaGrH
import Derived.Test.YthagafkjlecagaaGrI
import Derived.Test.YthagafkjlecagaaGrD
import Derived.Deep.RegionHeld3
import Derived.Deep.RegionWith
import Derived.Deep.QuietTactic
import Derived.BigQuiet
import Derived.RegionTactic
namespace Go.Proofs.Ythagafkjlecagaa
open Go.RowKit
set_option linter.unusedSimpArgs false
set_option linter.unusedVariables false
set_option maxRecDepth 100000 in
set_option maxHeartbeats 60000000 in
/-- spec.readEvent -/
theorem sreadE (a : Option Addr) (cap : Nat) (L : List ByteArray) (w : World) (h : IsStr w a L) (hL : L ≠ []) (hz : ∀ l ∈ L, l.size ≤ 4294967296) (hl : L.length ≤ 1048577) (hc_ : L.length ≤ cap) :
    Calls Try.prog 76 #[.slice a L.length cap] w (OutRM w (rdM L)) := by
  have B := (Below.refl w.heap.size w).alloc (Nat.le_refl _) (.cells #[.int .i64 0, .int .i64 0, .int .i64 0, .int .i64 0, .int .i64 0, .int .i64 0, .slice none 0 0, .int .i64 0, .int .i64 0] 35)
  have K := Blk.new w 35 #[.int .i64 0, .int .i64 0, .int .i64 0, .int .i64 0, .int .i64 0, .int .i64 0, .slice none 0 0, .int .i64 0, .int .i64 0]
  obtain ⟨U, hU⟩ : ∃ U, U = w.alloc (.cells #[.int .i64 0, .int .i64 0, .int .i64 0, .int .i64 0, .int .i64 0, .int .i64 0, .slice none 0 0, .int .i64 0, .int .i64 0] 35) := ⟨_, rfl⟩
  have hI := str_below h ((Below.refl w.heap.size w).alloc (Nat.le_refl _) (.cells #[.int .i64 0, .int .i64 0, .int .i64 0, .int .i64 0, .int .i64 0, .int .i64 0, .slice none 0 0, .int .i64 0, .int .i64 0] 35))
  rw [← hU] at B K hI
  have HU := Lib.hid hU
  have hkw : kw L = (L.getD 0 tE).data.toList := rfl
  clear hU
  rcases h with e | ⟨g, o_, rfl, hc0⟩
  · exact absurd e hL
  have hp0 := List.length_pos_iff.2 hL
  have hgw : g < w.heap.size := World.block_lt_of_cell? w _ (hc0 0 hp0)
  have hc : ∀ i, i < L.length → U.cell? ⟨g, o_ + i, none⟩ = some (.string (L.getD i tE)) := fun i hi => by
    rcases hI with e | ⟨g', o', e, h'⟩
    · exact absurd e hL
    · injection e with e; injection e with e1 e2; subst e1 e2; exact h' i hi
  have CS := Lib.hid (sreadSell (some ⟨g, o_, none⟩) cap L U hI hz)
  have CN := Lib.hid (snumbers (some ⟨g, o_ + 1, none⟩) (cap - 1) (L.drop 1) U (.inr ⟨g, o_ + 1, rfl, fun i hi => by
    have hi2 : i + 1 < L.length := by simp at hi; omega
    have := hc (i + 1) hi2
    rw [show o_ + 1 + i = o_ + (i + 1) from by omega, this, List.getD_eq_getElem?_getD, List.getD_eq_getElem?_getD, List.getElem?_drop, Nat.add_comm 1 i]⟩) (fun l hl => hz l (List.mem_of_mem_drop hl)) (by simp; omega))
  have c0 := hc 0 hp0
  rw [Nat.add_zero] at c0
  have hp : (0 : Int) < (L.length : Int) := by omega
  have hp1 : (1 : Int) ≤ (L.length : Int) := by omega
  have hlc : (L.length : Int) ≤ (cap : Int) := by omega
  have hdl : (L.drop 1).length = L.length - 1 := by simp
  clear hI hc hc0
  by_cases k0 : kw L = kSell
  · have CSS := CS.out k0
    have hk0 := k0
    rw [hkw] at k0
    have t0 : ((L.getD 0 tE).toList == [115, 101, 108, 108]) = true := str_eq _ kSell k0
    clear CS CN hkw k0 hdl
    generalize L.getD 0 tE = A at *
    generalize hR : rdM L = R at *
    clear hk0 hR
    go_enter Try.func76, Try.ntmps76
    go_wp2_with (first | (show wpList _ _ _ _ _ (World.alloc _ _); rw [← HU.out]))
    refine CSS.mono ?_
    rintro e U2 ⟨A2, cz, x, hor, rfl, I, hA, hcz, hxl, C⟩
    have KH := Lib.hid (K.next C)
    have HB := Lib.hid (bel_tr B C)
    have hg2 : w.heap.size < U2.heap.size := KH.out.lt
    have HI := Lib.hid I
    have HOR := Lib.hid hor
    have hs0 := C.size
    have hUw := K.lt
    have HA := Lib.hid (fun g o s (e : A2 = some ⟨g, o, s⟩) => (show w.heap.size ≤ g by have := hA g o s e; omega))
    have HA2 := Lib.hid (fun g o s (e : A2 = some ⟨g, o, s⟩) => (show g ≠ w.heap.size by have := hA g o s e; omega))
    obtain ⟨k, ⟨dk, o, t, n, d, zs⟩, at_, nu⟩ := x
    dsimp only at HI hcz hxl
    clear C K B I hor c0 hA
    obtain ⟨y1, hy⟩ : ∃ Y_, Y_ = sets9 U2 w.heap.size (.int .i64 k) (.int .i64 dk) (.int .i64 o) (.int .i64 t) (.int .i64 n) (.int .i64 d) (.slice A2 zs.length cz) (.int .i64 at_) (.int .i64 nu) := ⟨_, rfl⟩
    have KF := sets9_blk (v0 := .int .i64 k) (v1 := .int .i64 dk) (v2 := .int .i64 o) (v3 := .int .i64 t) (v4 := .int .i64 n) (v5 := .int .i64 d) (v6 := .slice A2 zs.length cz) (v7 := .int .i64 at_) (v8 := .int .i64 nu) KH.out
    rw [← hy] at KF
    obtain ⟨z0, z1, z2, z3, z4, z5, z6, z7, z8⟩ := cells9 KF
    have BF := Lib.hid (show Below w.heap.size w y1 by subst hy; exact sets9_below HB.out (Nat.le_refl _))
    have IF := Lib.hid (ints_far9 HI.out KH.out HA2.out hy)
    have HY := Lib.hid hy
    clear KF hy
    go_wp2_with (first | (show wpList _ _ _ ({ dst := _, op := Op.store _ _ _, type := _, pos := _, after := _, guard := _ } :: _) _ _; refine wpList_str9 rfl _ _ _ rfl w.heap.size (.int .i64 k) (.int .i64 dk) (.int .i64 o) (.int .i64 t) (.int .i64 n) (.int .i64 d) (.slice A2 zs.length cz) (.int .i64 at_) (.int .i64 nu) rfl rfl KH.out (by kernel_rfl) rfl ?_; rw [← HY.out]))
    refine bodyPost_ret (v := .tuple #[.agg #[.int .i64 k, .int .i64 dk, .int .i64 o, .int .i64 t, .int .i64 n, .int .i64 d, .slice A2 zs.length cz, .int .i64 at_, .int .i64 nu], .bool R.isSome]) (by simp [results, Try.results76, go_sem, z0, z1, z2, z3, z4, z5, z6, z7, z8]) rfl ⟨A2, cz, ⟨k, ⟨dk, o, t, n, d, zs⟩, at_, nu⟩, HOR.out, rfl, IF.out, HA.out, hcz, hxl, BF.out⟩
  have hk0 := k0
  rw [hkw] at k0
  have t0 : ((L.getD 0 tE).toList == [115, 101, 108, 108]) = false := str_ne _ kSell k0
  clear CS k0
  by_cases hcap : cap = 1
  · subst hcap
    have hn1 : L.length = 1 := by omega
    have hd : L.drop 1 = [] := List.drop_eq_nil_of_le (by omega)
    have HX := Lib.hid (rdM_nil hk0 (by rw [hd]; rfl))
    have CN1 := snumbers (some ⟨g, o_, none⟩) 0 [] U (.inl rfl) (fun l hl => by cases hl) (by simp)
    have CN3 : Calls Try.prog 96 #[.slice (some ⟨g, o_, none⟩) 0 0] U fun e w' => ∃ v, e = .returned (.tuple #[v, .bool true]) ∧ OwnI w' U.heap.size v [] ∧ Below U.heap.size U w' := CN1.mono (fun e w' h => by
      obtain ⟨v, rfl, h1, _, h3⟩ := h
      exact ⟨v, rfl, h1 rfl, h3⟩)
    rw [hn1] at hp hp1 hlc
    generalize L.getD 0 tE = A at *
    generalize hR : rdM L = R at *
    rw [hn1]
    clear hkw hk0 hd CN CN1 hn1 hdl hR hl hc_ hp0 hz hL
    go_enter Try.func76, Try.ntmps76
    go_wp2_with (first | (show wpList _ _ _ _ _ (World.alloc _ _); rw [← HU.out]))
    refine CN3.mono ?_
    rintro e U2 ⟨v, rfl, O, C⟩
    obtain ⟨b, cz, rfl, _⟩ := O.ints
    have KH := Lib.hid (K.next C)
    have HB := Lib.hid (bel_tr B C)
    clear C K B c0 O
    obtain ⟨y1, hy⟩ : ∃ Y_, Y_ = sets9 U2 w.heap.size (.int .i64 0) (.int .i64 0) (.int .i64 0) (.int .i64 0) (.int .i64 0) (.int .i64 0) (.slice none 0 0) (.int .i64 0) (.int .i64 0) := ⟨_, rfl⟩
    have KF := sets9_blk (v0 := .int .i64 0) (v1 := .int .i64 0) (v2 := .int .i64 0) (v3 := .int .i64 0) (v4 := .int .i64 0) (v5 := .int .i64 0) (v6 := .slice none 0 0) (v7 := .int .i64 0) (v8 := .int .i64 0) KH.out
    rw [← hy] at KF
    obtain ⟨z0, z1, z2, z3, z4, z5, z6, z7, z8⟩ := cells9 KF
    have BF := Lib.hid (show Below w.heap.size w y1 by subst hy; exact sets9_below HB.out (Nat.le_refl _))
    have HY := Lib.hid hy
    clear KF hy
    go_wp2_with (first | (show wpList _ _ _ ({ dst := _, op := Op.store _ _ _, type := _, pos := _, after := _, guard := _ } :: _) _ _; refine wpList_str9 rfl _ _ _ rfl w.heap.size (.int .i64 0) (.int .i64 0) (.int .i64 0) (.int .i64 0) (.int .i64 0) (.int .i64 0) (.slice none 0 0) (.int .i64 0) (.int .i64 0) rfl rfl KH.out (by kernel_rfl) rfl ?_; rw [← HY.out]))
    refine bodyPost_ret (v := .tuple #[.agg #[.int .i64 0, .int .i64 0, .int .i64 0, .int .i64 0, .int .i64 0, .int .i64 0, .slice none 0 0, .int .i64 0, .int .i64 0], .bool false]) (by simp [results, Try.results76, go_sem, z0, z1, z2, z3, z4, z5, z6, z7, z8]) rfl (by rw [HX.out]; exact outRM_no BF.out)
  have CN2 := CN.out
  rw [hdl] at CN2
  clear CN hdl
  generalize hn : L.length = n at *
  have HN := Lib.hid hn
  clear hn
  cases hall : (numL (L.drop 1)).all nnB with
  | false =>
    have HX := Lib.hid (rdM_bad hk0 hall)
    generalize L.getD 0 tE = A at *
    clear hkw hk0
    go_enter Try.func76, Try.ntmps76
    go_wp2_with (first | (show wpList _ _ _ _ _ (World.alloc _ _); rw [← HU.out]))
    refine CN2.mono ?_
    rintro e U2 ⟨v, rfl, _, hnil, C⟩
    rw [hnil hall, hall]
    have KH := Lib.hid (K.next C)
    have HB := Lib.hid (bel_tr B C)
    have hwU := K.lt
    clear C K B c0 hnil hall
    obtain ⟨y1, hy⟩ : ∃ Y_, Y_ = sets9 U2 w.heap.size (.int .i64 0) (.int .i64 0) (.int .i64 0) (.int .i64 0) (.int .i64 0) (.int .i64 0) (.slice none 0 0) (.int .i64 0) (.int .i64 0) := ⟨_, rfl⟩
    have KF := sets9_blk (v0 := .int .i64 0) (v1 := .int .i64 0) (v2 := .int .i64 0) (v3 := .int .i64 0) (v4 := .int .i64 0) (v5 := .int .i64 0) (v6 := .slice none 0 0) (v7 := .int .i64 0) (v8 := .int .i64 0) KH.out
    rw [← hy] at KF
    obtain ⟨z0, z1, z2, z3, z4, z5, z6, z7, z8⟩ := cells9 KF
    have BF := Lib.hid (show Below w.heap.size w y1 by subst hy; exact sets9_below HB.out (Nat.le_refl _))
    have HY := Lib.hid hy
    clear KF hy
    go_wp2_with (first | (show wpList _ _ _ ({ dst := _, op := Op.store _ _ _, type := _, pos := _, after := _, guard := _ } :: _) _ _; refine wpList_str9 rfl _ _ _ rfl w.heap.size (.int .i64 0) (.int .i64 0) (.int .i64 0) (.int .i64 0) (.int .i64 0) (.int .i64 0) (.slice none 0 0) (.int .i64 0) (.int .i64 0) rfl rfl KH.out (by kernel_rfl) rfl ?_; rw [← HY.out]))
    refine bodyPost_ret (v := .tuple #[.agg #[.int .i64 0, .int .i64 0, .int .i64 0, .int .i64 0, .int .i64 0, .int .i64 0, .slice none 0 0, .int .i64 0, .int .i64 0], .bool false]) (by simp [results, Try.results76, go_sem, z0, z1, z2, z3, z4, z5, z6, z7, z8]) rfl (by rw [HX.out]; exact outRM_no BF.out)
  | true =>
    have HAL := Lib.hid hall
    obtain ⟨zs, hzs⟩ : ∃ zs, numL (L.drop 1) = zs := ⟨_, rfl⟩
    have hzl : zs.length ≤ 1048576 := by rw [← hzs, num_len, List.length_drop, HN.out]; omega
    have CN3 : Calls Try.prog 96 #[.slice (some ⟨g, o_ + 1, none⟩) (n - 1) (cap - 1)] U fun e w' => ∃ v, e = .returned (.tuple #[v, .bool true]) ∧ OwnI w' U.heap.size v zs ∧ Below U.heap.size U w' := CN2.mono (fun e w' h => by
      obtain ⟨v, rfl, h1, _, h3⟩ := h
      exact ⟨v, by rw [hall], by rw [← hzs]; exact h1 hall, h3⟩)
    have HZS := Lib.hid hzs
    have hwU := K.lt
    clear CN2 hall hzs
    by_cases hm0 : zs.length = 0
    · obtain rfl := List.eq_nil_of_length_eq_zero hm0
      have HX := Lib.hid (rdM_nil hk0 HZS.out)
      generalize L.getD 0 tE = A at *
      clear hkw hk0 hm0
      go_enter Try.func76, Try.ntmps76
      go_wp2_with (first | (show wpList _ _ _ _ _ (World.alloc _ _); rw [← HU.out]))
      refine CN3.mono ?_
      rintro e U2 ⟨v, rfl, O, C⟩
      obtain ⟨b, cz, rfl, _⟩ := O.ints
      have KH := Lib.hid (K.next C)
      have HB := Lib.hid (bel_tr B C)
      clear C K B c0 O
      obtain ⟨y1, hy⟩ : ∃ Y_, Y_ = sets9 U2 w.heap.size (.int .i64 0) (.int .i64 0) (.int .i64 0) (.int .i64 0) (.int .i64 0) (.int .i64 0) (.slice none 0 0) (.int .i64 0) (.int .i64 0) := ⟨_, rfl⟩
      have KF := sets9_blk (v0 := .int .i64 0) (v1 := .int .i64 0) (v2 := .int .i64 0) (v3 := .int .i64 0) (v4 := .int .i64 0) (v5 := .int .i64 0) (v6 := .slice none 0 0) (v7 := .int .i64 0) (v8 := .int .i64 0) KH.out
      rw [← hy] at KF
      obtain ⟨z0, z1, z2, z3, z4, z5, z6, z7, z8⟩ := cells9 KF
      have BF := Lib.hid (show Below w.heap.size w y1 by subst hy; exact sets9_below HB.out (Nat.le_refl _))
      have HY := Lib.hid hy
      clear KF hy
      go_wp2_with (first | (show wpList _ _ _ ({ dst := _, op := Op.store _ _ _, type := _, pos := _, after := _, guard := _ } :: _) _ _; refine wpList_str9 rfl _ _ _ rfl w.heap.size (.int .i64 0) (.int .i64 0) (.int .i64 0) (.int .i64 0) (.int .i64 0) (.int .i64 0) (.slice none 0 0) (.int .i64 0) (.int .i64 0) rfl rfl KH.out (by kernel_rfl) rfl ?_; rw [← HY.out]))
      refine bodyPost_ret (v := .tuple #[.agg #[.int .i64 0, .int .i64 0, .int .i64 0, .int .i64 0, .int .i64 0, .int .i64 0, .slice none 0 0, .int .i64 0, .int .i64 0], .bool false]) (by simp [results, Try.results76, go_sem, z0, z1, z2, z3, z4, z5, z6, z7, z8]) rfl (by rw [HX.out]; exact outRM_no BF.out)
    have hm1 : ¬ (zs.length : Int) = 0 := by omega
    by_cases kJoin : kw L = kJoin
    · have kk := kJoin
      rw [hkw] at kk
      by_cases hm : zs.length = 2
      · obtain ⟨m0_, m1_, rfl⟩ : ∃ m0_ m1_, zs = [m0_, m1_] := by
          match zs, hm with
          | [m0_, m1_], _ => exact ⟨_, _, rfl⟩
        exact rdE_Join cap n g o_ _ w U L m0_ m1_ HU K B hgw hcap hp hp1 hlc c0 t0 CN3 hzl hm1 kk (Lib.hid (rdM_Join hk0 HAL.out HZS.out kJoin))
      · exact rdE_JoinN cap n g o_ _ w U L zs HU K B hgw hcap hp hp1 hlc c0 t0 CN3 hzl hm1 kk (by omega) (Lib.hid (rdM_JoinN hk0 (by rw [HZS.out]; exact hm) kJoin))
    by_cases kInh : kw L = kInh
    · have kk := kInh
      rw [hkw] at kk
      obtain ⟨m0_, r, rfl⟩ : ∃ m0_ r, zs = m0_ :: r := by
        match zs, hm0 with
        | m0_ :: r, _ => exact ⟨_, _, rfl⟩
      exact rdE_Inh cap n g o_ _ w U L m0_ r HU K B hgw hcap hp hp1 hlc c0 t0 CN3 hzl hm1 kk (Lib.hid (rdM_Inh hk0 HAL.out HZS.out kInh))
    by_cases kTurns : kw L = kTurns
    · have kk := kTurns
      rw [hkw] at kk
      by_cases hm : zs.length = 1
      · obtain ⟨m0_, rfl⟩ : ∃ m0_, zs = [m0_] := by
          match zs, hm with
          | [m0_], _ => exact ⟨_, rfl⟩
        exact rdE_Turns cap n g o_ _ w U L m0_ HU K B hgw hcap hp hp1 hlc c0 t0 CN3 hzl hm1 kk (Lib.hid (rdM_Turns hk0 HAL.out HZS.out kTurns))
      · exact rdE_TurnsN cap n g o_ _ w U L zs HU K B hgw hcap hp hp1 hlc c0 t0 CN3 hzl hm1 kk (by omega) (Lib.hid (rdM_TurnsN hk0 (by rw [HZS.out]; exact hm) kTurns))
    by_cases kHour : kw L = kHour
    · have kk := kHour
      rw [hkw] at kk
      by_cases hm : zs.length = 1
      · obtain ⟨m0_, rfl⟩ : ∃ m0_, zs = [m0_] := by
          match zs, hm with
          | [m0_], _ => exact ⟨_, rfl⟩
        exact rdE_Hour cap n g o_ _ w U L m0_ HU K B hgw hcap hp hp1 hlc c0 t0 CN3 hzl hm1 kk (Lib.hid (rdM_Hour hk0 HAL.out HZS.out kHour))
      · exact rdE_HourN cap n g o_ _ w U L zs HU K B hgw hcap hp hp1 hlc c0 t0 CN3 hzl hm1 kk (by omega) (Lib.hid (rdM_HourN hk0 (by rw [HZS.out]; exact hm) kHour))
    by_cases kSwap : kw L = kSwap
    · have kk := kSwap
      rw [hkw] at kk
      by_cases hm : zs.length = 2
      · obtain ⟨m0_, m1_, rfl⟩ : ∃ m0_ m1_, zs = [m0_, m1_] := by
          match zs, hm with
          | [m0_, m1_], _ => exact ⟨_, _, rfl⟩
        exact rdE_Swap cap n g o_ _ w U L m0_ m1_ HU K B hgw hcap hp hp1 hlc c0 t0 CN3 hzl hm1 kk (Lib.hid (rdM_Swap hk0 HAL.out HZS.out kSwap))
      · exact rdE_SwapN cap n g o_ _ w U L zs HU K B hgw hcap hp hp1 hlc c0 t0 CN3 hzl hm1 kk (by omega) (Lib.hid (rdM_SwapN hk0 (by rw [HZS.out]; exact hm) kSwap))
    by_cases kGate : kw L = kGate
    · have kk := kGate
      rw [hkw] at kk
      by_cases hm : zs.length = 2
      · obtain ⟨m0_, m1_, rfl⟩ : ∃ m0_ m1_, zs = [m0_, m1_] := by
          match zs, hm with
          | [m0_, m1_], _ => exact ⟨_, _, rfl⟩
        exact rdE_Gate cap n g o_ _ w U L m0_ m1_ HU K B hgw hcap hp hp1 hlc c0 t0 CN3 hzl hm1 kk (Lib.hid (rdM_Gate hk0 HAL.out HZS.out kGate))
      · exact rdE_GateN cap n g o_ _ w U L zs HU K B hgw hcap hp hp1 hlc c0 t0 CN3 hzl hm1 kk (by omega) (Lib.hid (rdM_GateN hk0 (by rw [HZS.out]; exact hm) kGate))
    by_cases kDig : kw L = kDig
    · have kk := kDig
      rw [hkw] at kk
      by_cases hm : zs.length = 2
      · obtain ⟨m0_, m1_, rfl⟩ : ∃ m0_ m1_, zs = [m0_, m1_] := by
          match zs, hm with
          | [m0_, m1_], _ => exact ⟨_, _, rfl⟩
        exact rdE_Dig cap n g o_ _ w U L m0_ m1_ HU K B hgw hcap hp hp1 hlc c0 t0 CN3 hzl hm1 kk (Lib.hid (rdM_Dig hk0 HAL.out HZS.out kDig))
      · exact rdE_DigN cap n g o_ _ w U L zs HU K B hgw hcap hp hp1 hlc c0 t0 CN3 hzl hm1 kk (by omega) (Lib.hid (rdM_DigN hk0 (by rw [HZS.out]; exact hm) kDig))
    have HX := Lib.hid (rdM_no hk0 kJoin kInh kTurns kHour kSwap kGate kDig)
    have nJoin := kJoin
    have nInh := kInh
    have nTurns := kTurns
    have nHour := kHour
    have nSwap := kSwap
    have nGate := kGate
    have nDig := kDig
    rw [hkw] at nJoin nInh nTurns nHour nSwap nGate nDig
    exact rdE_none cap n g o_ _ w U L zs HU K B hgw hcap hp hp1 hlc c0 t0 CN3 hzl hm1 nJoin nInh nTurns nHour nSwap nGate nDig HX
end Go.Proofs.Ythagafkjlecagaa
namespace Go.Proofs.Ythagafkjlecagaa
open Go.RowKit
set_option linter.unusedSimpArgs false
set_option linter.unusedVariables false

/-- what parseEvent leaves -/
def OutPM (w : World) (o : Option Ev) (e : Ending) (w' : World) : Prop := ∃ (A : Option Addr) (cz : Nat) (x : Ev), x = o.getD ev0 ∧ e = .returned (.tuple #[.agg #[.int .i64 x.k, .int .i64 x.dd.k, .int .i64 x.dd.o, .int .i64 x.dd.t, .int .i64 x.dd.n, .int .i64 x.dd.d, .slice A x.dd.zs.length cz, .int .i64 x.at_, .int .i64 x.nu], .bool o.isSome]) ∧ IsInts w' A x.dd.zs ∧ (∀ g o s, A = some ⟨g, o, s⟩ → w.heap.size ≤ g) ∧ x.dd.zs.length ≤ cz ∧ x.dd.zs.length ≤ 1048576 ∧ Below w.heap.size w w'
theorem outPM_no {w w' : World} (h : Below w.heap.size w w') : OutPM w none (.returned (.tuple #[.agg #[.int .i64 0, .int .i64 0, .int .i64 0, .int .i64 0, .int .i64 0, .int .i64 0, .slice none 0 0, .int .i64 0, .int .i64 0], .bool false])) w' := ⟨none, 0, ev0, rfl, rfl, .inl rfl, fun _ _ _ h => (by cases h), Nat.le_refl _, by decide, h⟩
theorem parM_none {s : ByteArray} (h : rdM (cutS 32 s) = none) : parM s = none := by unfold parM; rw [h]
theorem parM_zero {s : ByteArray} (h : s.size = 0) : parM s = none := by
  unfold parM
  cases rdM (cutS 32 s) with
  | none => rfl
  | some x => dsimp only; rw [if_neg (fun c => c.1 h)]
theorem parM_bad {s : ByteArray} {x : Ev} (h : rdM (cutS 32 s) = some x) (hx : fmE x ≠ s) : parM s = none := by
  unfold parM; rw [h]; dsimp only; rw [if_neg (fun c => hx c.2)]
theorem parM_good {s : ByteArray} {x : Ev} (h : rdM (cutS 32 s) = some x) (h0 : s.size ≠ 0) (hx : fmE x = s) : parM s = some x := by
  unfold parM; rw [h]; dsimp only; rw [if_pos ⟨h0, hx⟩]
theorem cut_len (c : Int) (s : ByteArray) : (cutS c s).length ≤ s.size + 1 := by
  have := (cutTo_bd c s s.size).2
  unfold cutS; simp; omega
theorem cut_size {c : Int} {s : ByteArray} : ∀ l ∈ cutS c s, l.size ≤ s.size := by
  have key : ∀ k, ∀ l ∈ (cutTo c s k).1, l.size ≤ s.size := by
    intro k
    induction k with
    | zero => intro l hl; cases hl
    | succ k ih =>
      intro l hl
      by_cases h : bt s k = c
      · rw [cutTo_hit h] at hl
        rcases List.mem_append.1 hl with hl | hl
        · exact ih l hl
        · simp only [List.mem_singleton] at hl; subst hl; exact ext_size _ _ _
      · rw [cutTo_miss h] at hl; exact ih l hl
  intro l hl
  unfold cutS at hl
  rcases List.mem_append.1 hl with hl | hl
  · exact key _ l hl
  · simp only [List.mem_singleton] at hl; subst hl; exact ext_size _ _ _
theorem cut_ne (c : Int) (s : ByteArray) : cutS c s ≠ [] := by unfold cutS; simp
theorem own_cap {w : World} {base : Nat} {g : Nat} {n cp : Nat} {L : List ByteArray} (h : StrO w base (.slice (some ⟨g, 0, none⟩) n cp) L) : L.length ≤ cp := by
  rcases h.2 with ⟨e, _⟩ | ⟨g', k, cs, e, _, _, hk, _⟩
  · cases e
  · injection e with _ _ e3; omega
set_option maxRecDepth 100000 in
set_option maxHeartbeats 6000000 in
/-- spec.parseEvent -/
theorem spar (s : ByteArray) (w : World) (h : s.size ≤ 1048576) :
    Calls Try.prog 44 #[.string s] w (OutPM w (parM s)) := by
  have B := (Below.refl w.heap.size w).alloc (Nat.le_refl _) (.cells #[.int .i64 0, .int .i64 0, .int .i64 0, .int .i64 0, .int .i64 0, .int .i64 0, .slice none 0 0, .int .i64 0, .int .i64 0] 35)
  have K := Blk.new w 35 #[.int .i64 0, .int .i64 0, .int .i64 0, .int .i64 0, .int .i64 0, .int .i64 0, .slice none 0 0, .int .i64 0, .int .i64 0]
  obtain ⟨U, hU⟩ : ∃ U, U = w.alloc (.cells #[.int .i64 0, .int .i64 0, .int .i64 0, .int .i64 0, .int .i64 0, .int .i64 0, .slice none 0 0, .int .i64 0, .int .i64 0] 35) := ⟨_, rfl⟩
  rw [← hU] at B K
  have HU := Lib.hid hU
  clear hU
  have HW := Lib.hid (ssplit s 32 U (by omega))
  have hL := cut_ne 32 s
  have hl1 := cut_len 32 s
  have hlz := cut_size (c := 32) (s := s)
  obtain ⟨L, hLL⟩ : ∃ L, cutS 32 s = L := ⟨_, rfl⟩
  have HLL := Lib.hid hLL
  have hwU := K.lt
  rw [hLL] at hL hl1 hlz
  clear hLL
  go_enter Try.func44, Try.ntmps44
  go_wp2_with (first | (show wpList _ _ _ ({ dst := some _, op := _, type := _, pos := _, after := _, guard := _ } :: _) _ (World.alloc _ _); rw [← HU.out]))
  refine HW.out.mono ?_
  rintro e u1 ⟨v, rfl, O, C⟩
  rw [HLL.out] at O
  obtain ⟨g, cp, rfl, lg, I⟩ := StrO.form O hL
  have hcp := own_cap O
  have CE := sreadE _ cp L u1 I hL (fun l hl => Nat.le_trans (hlz l hl) (by omega)) (by omega) hcp
  replace K := K.next C
  replace B := bel_tr B C
  have hu1 : w.heap.size < u1.heap.size := K.lt
  have hb0 := C.size
  clear C O I hL HW lg hcp hlz hl1
  go_wp2_with fail
  refine CE.mono ?_
  rintro e u2 ⟨A, cz, x, hor, rfl, I, hA, hcz, hxl, C⟩
  replace K := K.next C
  replace B := bel_tr B C
  have hb1 := C.size
  clear C CE
  obtain ⟨T, hT⟩ : ∃ T, fmE x = T := ⟨_, rfl⟩
  have CF := Lib.hid (fun W (hW : Below u2.heap.size u2 W) => sshowE A cz x W (ints_below I hW))
  rw [hT] at CF
  have HT := Lib.hid hT
  obtain ⟨k, ⟨dk, o, t, n, d, zs⟩, at_, nu⟩ := x
  dsimp only at I CF hcz hxl
  clear hT
  have ltu : w.heap.size < u2.heap.size := K.lt
  have I2 : IsInts (u2.alloc (.cells #[.int .i64 k, .int .i64 dk, .int .i64 o, .int .i64 t, .int .i64 n, .int .i64 d, .slice A zs.length cz, .int .i64 at_, .int .i64 nu] 35)) A zs := ints_below I ((Below.refl _ _).alloc (Nat.le_refl _) _)
  have K2 := Blk.new u2 35 #[.int .i64 k, .int .i64 dk, .int .i64 o, .int .i64 t, .int .i64 n, .int .i64 d, .slice A zs.length cz, .int .i64 at_, .int .i64 nu]
  have D2 : Below u2.heap.size u2 (u2.alloc (.cells #[.int .i64 k, .int .i64 dk, .int .i64 o, .int .i64 t, .int .i64 n, .int .i64 d, .slice A zs.length cz, .int .i64 at_, .int .i64 nu] 35)) := (Below.refl _ _).alloc (Nat.le_refl _) _
  replace K := K.alloc (.cells #[.int .i64 k, .int .i64 dk, .int .i64 o, .int .i64 t, .int .i64 n, .int .i64 d, .slice A zs.length cz, .int .i64 at_, .int .i64 nu] 35)
  replace B := B.alloc B.size (.cells #[.int .i64 k, .int .i64 dk, .int .i64 o, .int .i64 t, .int .i64 n, .int .i64 d, .slice A zs.length cz, .int .i64 at_, .int .i64 nu] 35)
  obtain ⟨U3, hU3⟩ : ∃ U3, U3 = u2.alloc (.cells #[.int .i64 k, .int .i64 dk, .int .i64 o, .int .i64 t, .int .i64 n, .int .i64 d, .slice A zs.length cz, .int .i64 at_, .int .i64 nu] 35) := ⟨_, rfl⟩
  rw [← hU3] at I2 K2 K B D2
  have HU3 := Lib.hid hU3
  have HA := Lib.hid (fun g o s (e : A = some ⟨g, o, s⟩) => (show w.heap.size ≤ g by have := hA g o s e; omega))
  have HA2 := Lib.hid (fun g o s (e : A = some ⟨g, o, s⟩) => (show g ≠ w.heap.size by have := hA g o s e; omega))
  have HI := Lib.hid I2
  clear hU3 I I2 hA
  obtain ⟨q0, q1, q2, q3, q4, q5, q6, q7, q8⟩ := cells9 K2
  have HOR := Lib.hid hor
  clear hor
  cases hr : (rdM L).isSome with
  | false =>
    have hn : rdM L = none := by cases e : rdM L with
      | none => rfl
      | some y => rw [e] at hr; cases hr
    have HX : Hid (parM s = none) := Lib.hid (parM_none (by rw [HLL.out]; exact hn))
    have KH := Lib.hid K
    have HB := Lib.hid B
    clear hn K B CF hr
    obtain ⟨y1, hy⟩ : ∃ Y_, Y_ = sets9 U3 w.heap.size (.int .i64 0) (.int .i64 0) (.int .i64 0) (.int .i64 0) (.int .i64 0) (.int .i64 0) (.slice none 0 0) (.int .i64 0) (.int .i64 0) := ⟨_, rfl⟩
    have KF := sets9_blk (v0 := .int .i64 0) (v1 := .int .i64 0) (v2 := .int .i64 0) (v3 := .int .i64 0) (v4 := .int .i64 0) (v5 := .int .i64 0) (v6 := .slice none 0 0) (v7 := .int .i64 0) (v8 := .int .i64 0) KH.out
    rw [← hy] at KF
    obtain ⟨z0, z1, z2, z3, z4, z5, z6, z7, z8⟩ := cells9 KF
    have BF := Lib.hid (show Below w.heap.size w y1 by subst hy; exact sets9_below HB.out (Nat.le_refl _))
    have HY := Lib.hid hy
    clear KF hy
    go_wp2_with (first | (show wpList _ _ _ ({ dst := some _, op := _, type := _, pos := _, after := _, guard := _ } :: _) _ (World.alloc _ _); rw [← HU3.out]) | (show wpList _ _ _ ({ dst := _, op := Op.store _ _ _, type := _, pos := _, after := _, guard := _ } :: _) _ _; refine wpList_str9 rfl _ _ _ rfl w.heap.size (.int .i64 0) (.int .i64 0) (.int .i64 0) (.int .i64 0) (.int .i64 0) (.int .i64 0) (.slice none 0 0) (.int .i64 0) (.int .i64 0) rfl rfl KH.out (by kernel_rfl) rfl ?_; rw [← HY.out]))
    refine bodyPost_ret (v := .tuple #[.agg #[.int .i64 0, .int .i64 0, .int .i64 0, .int .i64 0, .int .i64 0, .int .i64 0, .slice none 0 0, .int .i64 0, .int .i64 0], .bool false]) (by simp [results, Try.results44, go_sem, z0, z1, z2, z3, z4, z5, z6, z7, z8]) rfl (by rw [HX.out]; exact outPM_no BF.out)
  | true =>
    have hs : rdM (cutS 32 s) = some ⟨k, ⟨dk, o, t, n, d, zs⟩, at_, nu⟩ := by
      rw [HLL.out]
      rcases HOR.out with e | e
      · rw [e] at hr; cases hr
      · exact e
    by_cases h0 : s.size = 0
    · have he : s.toList.isEmpty = true := by rw [ByteArray.toList_eq, List.isEmpty_iff]; exact List.length_eq_zero_iff.1 (by rw [bt_len]; exact h0)
      have HX : Hid (parM s = none) := Lib.hid (parM_zero h0)
      have KH := Lib.hid K
      have HB := Lib.hid B
      clear h0 K B CF hs hr
      obtain ⟨y1, hy⟩ : ∃ Y_, Y_ = sets9 U3 w.heap.size (.int .i64 0) (.int .i64 0) (.int .i64 0) (.int .i64 0) (.int .i64 0) (.int .i64 0) (.slice none 0 0) (.int .i64 0) (.int .i64 0) := ⟨_, rfl⟩
      have KF := sets9_blk (v0 := .int .i64 0) (v1 := .int .i64 0) (v2 := .int .i64 0) (v3 := .int .i64 0) (v4 := .int .i64 0) (v5 := .int .i64 0) (v6 := .slice none 0 0) (v7 := .int .i64 0) (v8 := .int .i64 0) KH.out
      rw [← hy] at KF
      obtain ⟨z0, z1, z2, z3, z4, z5, z6, z7, z8⟩ := cells9 KF
      have BF := Lib.hid (show Below w.heap.size w y1 by subst hy; exact sets9_below HB.out (Nat.le_refl _))
      have HY := Lib.hid hy
      clear KF hy
      go_wp2_with (first | (show wpList _ _ _ ({ dst := some _, op := _, type := _, pos := _, after := _, guard := _ } :: _) _ (World.alloc _ _); rw [← HU3.out]) | (show wpList _ _ _ ({ dst := _, op := Op.store _ _ _, type := _, pos := _, after := _, guard := _ } :: _) _ _; refine wpList_str9 rfl _ _ _ rfl w.heap.size (.int .i64 0) (.int .i64 0) (.int .i64 0) (.int .i64 0) (.int .i64 0) (.int .i64 0) (.slice none 0 0) (.int .i64 0) (.int .i64 0) rfl rfl KH.out (by kernel_rfl) rfl ?_; rw [← HY.out]))
      refine bodyPost_ret (v := .tuple #[.agg #[.int .i64 0, .int .i64 0, .int .i64 0, .int .i64 0, .int .i64 0, .int .i64 0, .slice none 0 0, .int .i64 0, .int .i64 0], .bool false]) (by simp [results, Try.results44, go_sem, z0, z1, z2, z3, z4, z5, z6, z7, z8]) rfl (by rw [HX.out]; exact outPM_no BF.out)
    · have he : s.toList.isEmpty = false := by rw [ByteArray.toList_eq, List.isEmpty_eq_false_iff]; exact ne_nil (by omega)
      have CT := CF.out U3 D2
      clear CF
      by_cases e : T = s
      · subst e
        have HX : Hid (parM T = some ⟨k, ⟨dk, o, t, n, d, zs⟩, at_, nu⟩) := Lib.hid (parM_good hs h0 HT.out)
        clear h0 hs hr
        go_wp2_with (first | (show wpList _ _ _ ({ dst := some _, op := _, type := _, pos := _, after := _, guard := _ } :: _) _ (World.alloc _ _); rw [← HU3.out]))
        refine CT.mono ?_
        rintro e u4 ⟨rfl, C⟩
        have KH := Lib.hid (K.next C)
        have HB := Lib.hid (bel_tr B C)
        replace HI := Lib.hid (ints_below HI.out C)
        replace K2 := K2.next C
        clear q0 q1 q2 q3 q4 q5 q6 q7 q8 K B C
        obtain ⟨q0, q1, q2, q3, q4, q5, q6, q7, q8⟩ := cells9 K2
        obtain ⟨y1, hy⟩ : ∃ Y_, Y_ = sets9 u4 w.heap.size (.int .i64 k) (.int .i64 dk) (.int .i64 o) (.int .i64 t) (.int .i64 n) (.int .i64 d) (.slice A zs.length cz) (.int .i64 at_) (.int .i64 nu) := ⟨_, rfl⟩
        have KF := sets9_blk (v0 := .int .i64 k) (v1 := .int .i64 dk) (v2 := .int .i64 o) (v3 := .int .i64 t) (v4 := .int .i64 n) (v5 := .int .i64 d) (v6 := .slice A zs.length cz) (v7 := .int .i64 at_) (v8 := .int .i64 nu) KH.out
        rw [← hy] at KF
        obtain ⟨z0, z1, z2, z3, z4, z5, z6, z7, z8⟩ := cells9 KF
        have BF := Lib.hid (show Below w.heap.size w y1 by subst hy; exact sets9_below HB.out (Nat.le_refl _))
        have IF := Lib.hid (ints_far9 HI.out KH.out HA2.out hy)
        have HY := Lib.hid hy
        clear KF hy
        go_wp2_with (first | (show wpList _ _ _ ({ dst := _, op := Op.store _ _ _, type := _, pos := _, after := _, guard := _ } :: _) _ _; refine wpList_str9 rfl _ _ _ rfl w.heap.size (.int .i64 k) (.int .i64 dk) (.int .i64 o) (.int .i64 t) (.int .i64 n) (.int .i64 d) (.slice A zs.length cz) (.int .i64 at_) (.int .i64 nu) rfl rfl KH.out (by kernel_rfl) rfl ?_; rw [← HY.out]))
        refine bodyPost_ret (v := .tuple #[.agg #[.int .i64 k, .int .i64 dk, .int .i64 o, .int .i64 t, .int .i64 n, .int .i64 d, .slice A zs.length cz, .int .i64 at_, .int .i64 nu], .bool true]) (by simp [results, Try.results44, go_sem, z0, z1, z2, z3, z4, z5, z6, z7, z8]) rfl (by rw [HX.out]; exact ⟨A, cz, ⟨k, ⟨dk, o, t, n, d, zs⟩, at_, nu⟩, rfl, rfl, IF.out, HA.out, hcz, hxl, BF.out⟩)
      · have HX : Hid (parM s = none) := Lib.hid (parM_bad hs (by rw [HT.out]; exact e))
        have tt : (T.toList == s.toList) = false := by rw [ByteArray.toList_eq, ByteArray.toList_eq, beq_eq_false_iff_ne]; intro c; exact e (by rw [← txt_of T, c, txt_of])
        have tt2 : (T.toList != s.toList) = true := by rw [bne, tt]; rfl
        clear h0 e hs hr
        go_wp2_with (first | (show wpList _ _ _ ({ dst := some _, op := _, type := _, pos := _, after := _, guard := _ } :: _) _ (World.alloc _ _); rw [← HU3.out]))
        refine CT.mono ?_
        rintro e u4 ⟨rfl, C⟩
        have KH := Lib.hid (K.next C)
        have HB := Lib.hid (bel_tr B C)
        clear q0 q1 q2 q3 q4 q5 q6 q7 q8 K B C K2
        obtain ⟨y1, hy⟩ : ∃ Y_, Y_ = sets9 u4 w.heap.size (.int .i64 0) (.int .i64 0) (.int .i64 0) (.int .i64 0) (.int .i64 0) (.int .i64 0) (.slice none 0 0) (.int .i64 0) (.int .i64 0) := ⟨_, rfl⟩
        have KF := sets9_blk (v0 := .int .i64 0) (v1 := .int .i64 0) (v2 := .int .i64 0) (v3 := .int .i64 0) (v4 := .int .i64 0) (v5 := .int .i64 0) (v6 := .slice none 0 0) (v7 := .int .i64 0) (v8 := .int .i64 0) KH.out
        rw [← hy] at KF
        obtain ⟨z0, z1, z2, z3, z4, z5, z6, z7, z8⟩ := cells9 KF
        have BF := Lib.hid (show Below w.heap.size w y1 by subst hy; exact sets9_below HB.out (Nat.le_refl _))
        have HY := Lib.hid hy
        clear KF hy
        go_wp2_with (first | (show wpList _ _ _ ({ dst := _, op := Op.store _ _ _, type := _, pos := _, after := _, guard := _ } :: _) _ _; refine wpList_str9 rfl _ _ _ rfl w.heap.size (.int .i64 0) (.int .i64 0) (.int .i64 0) (.int .i64 0) (.int .i64 0) (.int .i64 0) (.slice none 0 0) (.int .i64 0) (.int .i64 0) rfl rfl KH.out (by kernel_rfl) rfl ?_; rw [← HY.out]))
        refine bodyPost_ret (v := .tuple #[.agg #[.int .i64 0, .int .i64 0, .int .i64 0, .int .i64 0, .int .i64 0, .int .i64 0, .slice none 0 0, .int .i64 0, .int .i64 0], .bool false]) (by simp [results, Try.results44, go_sem, z0, z1, z2, z3, z4, z5, z6, z7, z8]) rfl (by rw [HX.out]; exact outPM_no BF.out)
set_option maxRecDepth 100000 in
set_option maxHeartbeats 6000000 in
/-- spec.ParseEvent -/
theorem sParE (s : ByteArray) (w : World) (h : s.size ≤ 1048576) :
    Calls Try.prog 17 #[.string s] w (OutPM w (parM s)) := by
  have B := (Below.refl w.heap.size w).alloc (Nat.le_refl _) (.cells #[.int .i64 0, .int .i64 0, .int .i64 0, .int .i64 0, .int .i64 0, .int .i64 0, .slice none 0 0, .int .i64 0, .int .i64 0] 35)
  have K := Blk.new w 35 #[.int .i64 0, .int .i64 0, .int .i64 0, .int .i64 0, .int .i64 0, .int .i64 0, .slice none 0 0, .int .i64 0, .int .i64 0]
  obtain ⟨U, hU⟩ : ∃ U, U = w.alloc (.cells #[.int .i64 0, .int .i64 0, .int .i64 0, .int .i64 0, .int .i64 0, .int .i64 0, .slice none 0 0, .int .i64 0, .int .i64 0] 35) := ⟨_, rfl⟩
  rw [← hU] at B K
  have HU := Lib.hid hU
  clear hU
  have CC := Lib.hid (spar s U h)
  generalize parM s = R at *
  have hwU := K.lt
  go_enter Try.func17, Try.ntmps17
  go_wp2_with (first | (show wpList _ _ _ ({ dst := some _, op := _, type := _, pos := _, after := _, guard := _ } :: _) _ (World.alloc _ _); rw [← HU.out]))
  refine CC.out.mono ?_
  rintro e u2 ⟨A, cz, x, hx, rfl, I, hA, hcz, hxl, C⟩
  have HX := Lib.hid hx
  have HA := Lib.hid (fun g o s (e : A = some ⟨g, o, s⟩) => (show w.heap.size ≤ g by have := hA g o s e; omega))
  have HA2 := Lib.hid (fun g o s (e : A = some ⟨g, o, s⟩) => (show g ≠ w.heap.size by have := hA g o s e; omega))
  have KH := Lib.hid (K.next C)
  have HB := Lib.hid (bel_tr B C)
  obtain ⟨k, ⟨dk, o, t, n, d, zs⟩, at_, nu⟩ := x
  dsimp only at I hcz hxl
  have HI := Lib.hid I
  generalize hb : R.isSome = b at *
  have HBB := Lib.hid hb
  clear hx hA C K B I hb
  obtain ⟨y1, hy⟩ : ∃ Y_, Y_ = sets9 u2 w.heap.size (.int .i64 k) (.int .i64 dk) (.int .i64 o) (.int .i64 t) (.int .i64 n) (.int .i64 d) (.slice A zs.length cz) (.int .i64 at_) (.int .i64 nu) := ⟨_, rfl⟩
  have KF := sets9_blk (v0 := .int .i64 k) (v1 := .int .i64 dk) (v2 := .int .i64 o) (v3 := .int .i64 t) (v4 := .int .i64 n) (v5 := .int .i64 d) (v6 := .slice A zs.length cz) (v7 := .int .i64 at_) (v8 := .int .i64 nu) KH.out
  rw [← hy] at KF
  obtain ⟨z0, z1, z2, z3, z4, z5, z6, z7, z8⟩ := cells9 KF
  have BF := Lib.hid (show Below w.heap.size w y1 by subst hy; exact sets9_below HB.out (Nat.le_refl _))
  have IF := Lib.hid (ints_far9 HI.out KH.out HA2.out hy)
  have HY := Lib.hid hy
  clear KF hy
  go_wp2_with (first | (show wpList _ _ _ ({ dst := _, op := Op.store _ _ _, type := _, pos := _, after := _, guard := _ } :: _) _ _; refine wpList_str9 rfl _ _ _ rfl w.heap.size (.int .i64 k) (.int .i64 dk) (.int .i64 o) (.int .i64 t) (.int .i64 n) (.int .i64 d) (.slice A zs.length cz) (.int .i64 at_) (.int .i64 nu) rfl rfl KH.out (by kernel_rfl) rfl ?_; rw [← HY.out]))
  refine bodyPost_ret (v := .tuple #[.agg #[.int .i64 k, .int .i64 dk, .int .i64 o, .int .i64 t, .int .i64 n, .int .i64 d, .slice A zs.length cz, .int .i64 at_, .int .i64 nu], .bool b]) (by simp [results, Try.results17, go_sem, z0, z1, z2, z3, z4, z5, z6, z7, z8]) rfl ⟨A, cz, ⟨k, ⟨dk, o, t, n, d, zs⟩, at_, nu⟩, HX.out, by rw [HBB.out], IF.out, HA.out, hcz, hxl, BF.out⟩
end Go.Proofs.Ythagafkjlecagaa
