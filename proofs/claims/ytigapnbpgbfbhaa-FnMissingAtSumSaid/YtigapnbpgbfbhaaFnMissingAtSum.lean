/- For every input the law answers true, and its argument reads afterwards as before: all water is found again. No condition. -/
import Derived.Test.YtigapnbpgbfbhaaRows
import Derived.Test.YtigapnbpgbfbhaaDrawTk
import Derived.Test.YtigapnbpgbfbhaaMeaJ
import Derived.Test.YtigapnbpgbfbhaaMeaQ
import Derived.Test.YtigapnbpgbfbhaaEqI
import Derived.Test.YtigapnbpgbfbhaaLawIn
import Derived.WalkKit
import Derived.Deep.RegionHeld3
import Derived.Deep.RegionWith
import Derived.Deep.QuietTactic
import Derived.BigQuiet
import Derived.RegionTactic
import Derived.ChangeAlike
import Derived.BigRegion
import Derived.ProofKit
import Derived.OpenShut
import Derived.ShutString
import Derived.ChangeOld
import Derived.Below
import Derived.Lib.SmallJoins
namespace Go.Proofs.Ytigapnbpgbfbhaa.fnMissingAtSum
open Go.ChangeShapes Go.WideShapes Go.ChangeAt Go.RowKit Go.Joins
open Go.ChangeMaps (open_string shut_string)
set_option linter.unusedVariables false
set_option linter.unusedSimpArgs false

theorem own : ownKnob Try.prog.godebug = none := by kernel_rfl
theorem laidOut : laidOutB Try.prog = true := by kernel_rfl

set_option maxRecDepth 100000 in
set_option maxHeartbeats 8000000 in
theorem walk (a0 : Option Addr) (len0 cap0 : Nat) (z0 : List Int) (w : World) (w0 : IsRow .u8 w a0 len0 cap0 z0) :
    Calls Try.prog 9 #[.slice a0 len0 cap0] w fun e w' => e = .returned (.bool true) ∧ Below w.heap.size w w' := by
  by_cases big : (1048576 : Int) < (len0 : Int)
  · go_enter Try.func9, Try.ntmps9
    go_wp2
    go_ret
    exact ⟨rfl, Below.refl _ _⟩
  go_enter Try.func9, Try.ntmps9
  go_wp2_with fail
  refine (drawMea a0 len0 cap0 z0 _ w0).mono ?_
  rintro e u1 ⟨b1, c1, xs, n, b2, c2, ms, rfl, l1, l10, hlc, IN, f0, f1, tl, tz, IM, B⟩
  clear w0 big
  have n1 : xs.length ≤ 1048576 := by omega
  have m1 : ms.length ≤ 1048576 := by omega
  have HTL := Lib.hid tl
  have HTZ := Lib.hid tz
  clear tl tz
  obtain ⟨V, hV⟩ : ∃ V, meaV xs n ms = V := ⟨_, rfl⟩
  have HI : Hid (∀  (W : World), (h1 : IsNd W b1 xs) → (h2 : IsInts W b2 ms) → Calls Try.prog 29 #[.slice b1 xs.length c1, .int .i64 n, .slice b2 ms.length c2] W (OutI W V)) := fun  W h1 h2 => by rw [← hV]; exact iMea b1 b2 c1 c2 xs n ms W h1 h2 n1 m1 hlc
  have HS : Hid (∀  (W : World), (h1 : IsNd W b1 xs) → (h2 : IsInts W b2 ms) → Calls Try.prog 28 #[.slice b1 xs.length c1, .int .i64 n, .slice b2 ms.length c2] W (OutI W V)) := fun  W h1 h2 => by rw [← hV]; exact sMea b1 b2 c1 c2 xs n ms W h1 h2 n1 m1
  cases hvm : vkB xs n ms with
  | false =>
    have e0 : ((V.length : Int) == 0) = true := by rw [← hV, meaV_no hvm]; rfl
    have e1 : (V.length == 0) = true := by rw [← hV, meaV_no hvm]; rfl
    have hVl : V.length ≤ 1048576 := by rw [← hV, meaV_no hvm]; simp
    have HQ : Hid (∀ (b : Option Addr) (b' : Option Addr) (c : Nat) (c' : Nat) (W : World), (h1 : IsInts W b V) → (h2 : IsInts W b' V) → Calls Try.prog 31 #[.slice b V.length c, .slice b' V.length c'] W (fun e w' => e = .returned (.bool true) ∧ Below W.heap.size W w')) := fun b b' c c' W h1 h2 => eqInts b b' c c' V W h1 h2 hVl
    clear hV hvm hVl
    go_wp2_with fail
    refine (HI.out _ IN IM).mono ?_
    rintro e u2_ ⟨vo, rfl, Oo, C_⟩
    obtain ⟨bo, co, rfl, Io⟩ := Oo.ints
    clear Oo
    replace B := bel_tr B C_
    replace IN := nd_below IN C_
    replace IM := ints_below IM C_
    clear C_
    go_wp2_with fail
    refine (HS.out _ IN IM).mono ?_
    rintro e u3_ ⟨vp, rfl, Op, C_⟩
    obtain ⟨bp, cp, rfl, Ip⟩ := Op.ints
    clear Op
    replace B := bel_tr B C_
    replace IN := nd_below IN C_
    replace IM := ints_below IM C_
    replace Io := ints_below Io C_
    clear C_
    go_wp2_with fail
    refine (HQ.out _ _ _ _ _ Io Ip).mono ?_
    rintro e u4_ ⟨rfl, C_⟩
    replace B := bel_tr B C_
    replace IN := nd_below IN C_
    replace IM := ints_below IM C_
    replace Io := ints_below Io C_
    replace Ip := ints_below Ip C_
    clear C_
    go_wp2_with fail
    clear Ip
    refine (HS.out _ IN IM).mono ?_
    rintro e u5_ ⟨vq, rfl, Oq, C_⟩
    obtain ⟨bq, cq, rfl, Iq⟩ := Oq.ints
    clear Oq
    replace B := bel_tr B C_
    replace IN := nd_below IN C_
    replace IM := ints_below IM C_
    replace Io := ints_below Io C_
    clear C_
    go_wp2_with fail
    refine (HQ.out _ _ _ _ _ Io Iq).mono ?_
    rintro e u6_ ⟨rfl, C_⟩
    replace B := bel_tr B C_
    replace IN := nd_below IN C_
    replace IM := ints_below IM C_
    replace Io := ints_below Io C_
    replace Iq := ints_below Iq C_
    clear C_
    go_wp2_with fail
    go_ret
    exact ⟨rfl, B⟩
  | true =>
  rw [meaV_yes hvm] at hV
  have hVl : V.length = xs.length := by rw [← hV, meaF_len]
  have e0 : ((V.length : Int) == 0) = false := beq_eq_false_iff_ne.2 (by omega)
  have e1 : (V.length == 0) = false := beq_eq_false_iff_ne.2 (by omega)
  have HQ : Hid (∀ (b : Option Addr) (b' : Option Addr) (c : Nat) (c' : Nat) (W : World), (h1 : IsInts W b V) → (h2 : IsInts W b' V) → Calls Try.prog 31 #[.slice b V.length c, .slice b' V.length c'] W (fun e w' => e = .returned (.bool true) ∧ Below W.heap.size W w')) := fun b b' c c' W h1 h2 => eqInts b b' c c' V W h1 h2 (by omega)
  have hVM : vmB xs V = true := by rw [← hV]; exact mea_all hvm
  have hroot : V.getD 0 0 = n := by
    rw [← hV]; exact mea_root (vm_is (vk_is hvm).1).1 (fun j => (allM_get (vm_is (vk_is hvm).1).2.2 j).1) n
  have hv := (vm_is hVM).1
  obtain ⟨Q, hQ⟩ : ∃ Q, misF xs V = Q := ⟨_, rfl⟩
  obtain ⟨X, hX⟩ : ∃ X, expF xs V = X := ⟨_, rfl⟩
  have hQl : Q.length = xs.length := by rw [← hQ, misF_len]
  have hXl : X.length = xs.length := by rw [← hX, expF_len]
  have hQb : ∀ z ∈ Q, -1000000 ≤ z ∧ z ≤ 1000000 := fun z hz => by
    obtain ⟨i, hi, e⟩ := List.getElem_of_mem hz
    have := misF_bd hVM i
    rw [hQ, List.getD_eq_getElem?_getD, List.getElem?_eq_getElem hi] at this
    have h2 : -500 ≤ Q[i] ∧ Q[i] ≤ 500 := this
    rw [e] at h2; omega
  have HQS : Hid (fndT xs V 0 = Q.sum) := by show (misF xs V).sum + 0 - 0 = _; rw [hQ]; omega
  have HFS : Hid (∀ k, fndT xs V (k + 1) = fndT xs V k + V.getD k 0 - atSum X (kidsF xs (k : Int))) := fun k => by rw [← hX]; exact fndT_succ xs V k
  have HFB : Hid (∀ k, k ≤ xs.length → -20000000 ≤ fndT xs V k ∧ fndT xs V k ≤ 20000000) := fun k hk => by rw [← hQ] at hQb; exact fndT_bd hVM hQb k hk
  have HKL : Hid (∀ k, k < xs.length → 0 ≤ atSum X (kidsF xs (k : Int)) ∧ atSum X (kidsF xs (k : Int)) ≤ min (xs.getD k nd0).2.2.2.1 (max 0 (V.getD k 0 - (xs.getD k nd0).2.2.1))) := fun k hk => by rw [← hX]; exact exp_kids_le hVM hk
  have HXB : Hid (∀ j, 0 ≤ X.getD j 0 ∧ X.getD j 0 ≤ 500) := fun j => by rw [← hX]; exact exp_bd2 hVM j
  have HVB : Hid (∀ j, 0 ≤ V.getD j 0 ∧ V.getD j 0 ≤ 500) := allM_get (vm_is hVM).2.2
  have HEND : Hid (fndT xs V xs.length = n) := by show _ = _; rw [found_all hVM, hroot]
  have HVN := Lib.hid hv
  have HM : Hid (∀ (b : Option Addr) (c : Nat) (W : World), (h1 : IsNd W b1 xs) → (h2 : IsInts W b V) → Calls Try.prog 25 #[.slice b1 xs.length c1, .slice b V.length c] W (OutI W Q)) := fun b c W h1 h2 => by have h := iMis b1 b c1 c xs V W h1 h2 n1 (by omega) hlc; rw [misV_yes hVM, hQ] at h; exact h
  have HE : Hid (∀ (b : Option Addr) (c : Nat) (W : World), (h1 : IsNd W b1 xs) → (h2 : IsInts W b V) → Calls Try.prog 18 #[.slice b1 xs.length c1, .slice b V.length c] W (OutI W X)) := fun b c W h1 h2 => by have h := iExp b1 b c1 c xs V W h1 h2 n1 (by omega) hlc; rw [expV_yes hVM, hX] at h; exact h
  have HT : Hid (∀ (b : Option Addr) (c : Nat) (W : World), (h2 : IsInts W b Q) → Calls Try.prog 34 #[.slice b Q.length c] W (fun e w' => e = .returned (.int .i64 Q.sum) ∧ W = w')) := fun b c W h2 => ltotal b c Q W h2 (by omega) hQb
  have HK : Hid (∀ (k : Nat) (W : World), (h0 : k < xs.length) → (h1 : IsNd W b1 xs) → Calls Try.prog 35 #[.slice b1 xs.length c1, .int .i64 (k : Int)] W (OutI W (kidsF xs (k : Int)))) := fun k W h0 h1 => by have h := iKids b1 c1 xs (k : Int) W h1 n1 hlc; rw [kids_yes hv (inN_is h0)] at h; exact h
  have HXL := Lib.hid hXl
  have HVL := Lib.hid hVl
  clear hV hvm hVM hQ hX hQl hXl hVl hQb hroot hv
  rcases (show IsNd u1 b1 xs from IN) with hnil | ⟨g0, o0, rfl, _⟩
  · rw [hnil] at l1; exact absurd l1 (by decide)
  go_wp2_with fail
  refine (HI.out _ IN IM).mono ?_
  rintro e u2_ ⟨vo, rfl, Oo, C_⟩
  obtain ⟨bo, co, rfl, Io⟩ := Oo.ints
  clear Oo
  replace B := bel_tr B C_
  replace IN := nd_below IN C_
  replace IM := ints_below IM C_
  clear C_
  go_wp2_with fail
  refine (HS.out _ IN IM).mono ?_
  rintro e u3_ ⟨vp, rfl, Op, C_⟩
  obtain ⟨bp, cp, rfl, Ip⟩ := Op.ints
  clear Op
  replace B := bel_tr B C_
  replace IN := nd_below IN C_
  replace IM := ints_below IM C_
  replace Io := ints_below Io C_
  clear C_
  go_wp2_with fail
  refine (HQ.out _ _ _ _ _ Io Ip).mono ?_
  rintro e u4_ ⟨rfl, C_⟩
  replace B := bel_tr B C_
  replace IN := nd_below IN C_
  replace IM := ints_below IM C_
  replace Io := ints_below Io C_
  replace Ip := ints_below Ip C_
  clear C_
  go_wp2_with fail
  clear Ip
  clear HI HS
  refine (HM.out _ _ _ IN Io).mono ?_
  rintro e u5_ ⟨v5, rfl, O5, C_⟩
  obtain ⟨b5, c5, rfl, I5⟩ := O5.ints
  clear O5
  replace B := bel_tr B C_
  replace IN := nd_below IN C_
  replace IM := ints_below IM C_
  replace Io := ints_below Io C_
  clear C_
  go_wp2_with fail
  refine (HT.out _ _ _ I5).mono ?_
  rintro e w' ⟨rfl, rfl⟩
  go_wp2_with fail
  refine (HE.out _ _ _ IN Io).mono ?_
  rintro e u6_ ⟨v6, rfl, O6, C_⟩
  obtain ⟨b6, c6, rfl, I6⟩ := O6.ints
  clear O6
  replace B := bel_tr B C_
  replace IN := nd_below IN C_
  replace IM := ints_below IM C_
  replace Io := ints_below Io C_
  replace I5 := ints_below I5 C_
  clear C_
  go_wp2_with fail
  have HIo := Lib.hid Io
  have HI6 := Lib.hid I6
  have HIN2 := Lib.hid IN
  have HB0 := Lib.hid B
  clear B IN IM Io I5 I6 HM HE HT HQ
  go_loopw [7, 9] (fun v i wr => ∃ k : Nat, k ≤ xs.length ∧ i = .int .i64 k ∧ v = .int .i64 (fndT xs V k) ∧ Below u6_.heap.size u6_ wr) (fun _ i _ => xs.length - (intOf i).toNat)
  case atStart => exact ⟨0, Nat.zero_le _, rfl, by rw [HQS.out], Below.refl _ _⟩
  case round =>
    obtain ⟨k, hk, rfl, rfl, hB⟩ := hrel
    by_cases hlt : k < xs.length
    · have HKL2 := HKL.out k hlt
      have HFS2 := HFS.out k
      have hfb := HFB.out k (by omega)
      have hfb2 := HFB.out (k + 1) (by omega)
      have hkk := kids_len2 xs (k : Int)
      have HKM : Hid (∀ z ∈ kidsF xs (k : Int), ∃ j : Nat, z = (j : Int) ∧ j < xs.length) := fun z hz => by obtain ⟨j, a, b, _⟩ := kids_bd hz; exact ⟨j, a, b⟩
      have IN := nd_below HIN2.out hB
      have ao := ints_below HIo.out hB
      have CK := fun (q : Nat) => HK.out k (wr.drewN q) hlt (show IsNd (wr.drewN q) _ xs from IN)
      rcases IN with hnil | ⟨gq, oq, hgq, hcn⟩
      · rw [hnil] at l1; exact absurd l1 (by decide)
      injection hgq with hgq
      injection hgq with q1 q2
      subst q1 q2
      have hV1 : k < V.length := by have := HVL.out; omega
      rcases ao with hnil | ⟨go, oo, rfl, hco⟩
      · rw [hnil] at hV1; exact absurd hV1 (Nat.not_lt_zero _)
      have xo := hco k hV1
      obtain ⟨_, _, c2, c3, _⟩ := hcn k hlt
      have k0 : (0 : Int) ≤ (k : Int) := by omega
      have k1 : (k : Int) < (xs.length : Int) := by omega
      have k2 : (k : Int) < (V.length : Int) := by omega
      have bo := HVB.out k
      have bl := (vn_at HVN.out hlt).2.1
      have br := (vn_at HVN.out hlt).2.2.1
      have HB := Lib.hid hB
      clear hcn hco hB hV1
      generalize (xs.getD k nd0).2.2.1 = ls at c2 HKL2 bl
      generalize (xs.getD k nd0).2.2.2.1 = rm at c3 HKL2 br
      obtain ⟨y, hy⟩ : ∃ y, V.getD k 0 = y := ⟨_, rfl⟩
      rw [hy] at xo HKL2 HFS2 bo
      have HY := Lib.hid hy
      clear hy
      obtain ⟨F, hF⟩ : ∃ F, fndT xs V k = F := ⟨_, rfl⟩
      rw [hF] at HFS2 hfb ⊢
      clear hF
      obtain ⟨F2, hF2⟩ : ∃ F2, fndT xs V (k + 1) = F2 := ⟨_, rfl⟩
      rw [hF2] at HFS2 hfb2
      have HF2 := Lib.hid hF2
      clear hF2
      generalize kidsF xs (k : Int) = ks at HKL2 HFS2 hkk HKM CK
      have wz : IntKind.i64.wrap (y - ls) = y - ls := by rw [IntKind.wrap_i64]; omega
      by_cases p : 0 < y - ls
      · by_cases q : rm ≤ y - ls
        · go_wp2_with fail
          go_quiet (fail)
          go_wp2_with fail
          refine (CK _).mono ?_
          rintro e w3 ⟨v, rfl, O, C⟩
          obtain ⟨bk, ck, rfl, Ik⟩ := O.ints
          have HB3 := Lib.hid (bel_tr (below_drewN HB.out _) C)
          have HIk := Lib.hid Ik
          have HS := Lib.hid (And.intro HKL2 HFS2)
          clear O C Ik CK HKL2 HFS2 xo c2 c3
          go_wp2_with fail
          go_loopw [12, 13] (fun s j wi => ∃ m : Nat, m ≤ ks.length ∧ j = .int .i64 m ∧ s = .int .i64 (atSum X (ks.take m)) ∧ wi = w3) (fun _ j _ => ks.length - (intOf j).toNat)
          case atStart => exact ⟨0, Nat.zero_le _, rfl, rfl, rfl⟩
          case round =>
            obtain ⟨m, hm, rfl, rfl, rfl⟩ := hrel
            have bs := atSum_bd HXB.out (ks.take m)
            rw [List.length_take] at bs
            by_cases hlm : m < ks.length
            · have at1 := atSum_take X ks m hlm
              obtain ⟨j, hj, hjl⟩ := HKM.out _ (getD_mem (zs := ks) (k := m) hlm)
              have hjx : j < X.length := by have := HXL.out; omega
              have a6 := ints_below HI6.out HB3.out
              have ak := HIk.out
              rcases a6 with hnil | ⟨g6, o6, rfl, h6⟩
              · rw [hnil] at hjx; exact absurd hjx (Nat.not_lt_zero _)
              rcases ak with hnil | ⟨gk, okk, rfl, hkc⟩
              · rw [hnil] at hlm; exact absurd hlm (Nat.not_lt_zero _)
              have c6 := h6 j hjx
              have cm := hkc m hlm
              rw [hj] at cm
              rw [hj, show ((j : Int)).toNat = j from by omega] at at1
              have bx := HXB.out j
              generalize X.getD j 0 = x at c6 at1 bx
              generalize atSum X (ks.take m) = S at at1 bs
              have j0 : (0 : Int) ≤ (j : Int) := by omega
              have j1 : (j : Int) < (X.length : Int) := by omega
              have m0 : (0 : Int) ≤ (m : Int) := by omega
              have m2 : (m : Int) < (ks.length : Int) := by omega
              have ws : IntKind.i64.wrap (S + x) = S + x := by rw [IntKind.wrap_i64]; omega
              have HAT := Lib.hid at1
              clear at1 h6 hkc hj
              go_wp2_with fail
              go_roundw
              case rel => exact ⟨m + 1, by omega, by go_num, by rw [HAT.out], by trivial⟩
              case measure => simp [intOf]; omega
            · have hmk2 : m = ks.length := by omega
              have e1 : ks.take m = ks := List.take_of_length_le (by omega)
              rw [e1] at bs ⊢
              have hs1 := HS.out.1
              have hs2 := HS.out.2
              generalize atSum X ks = S at bs hs1 hs2
              have hlm2 : ¬ (m : Int) < (ks.length : Int) := by omega
              have ao := ints_below HIo.out HB3.out
              have hV1 : k < V.length := by have := HVL.out; omega
              rcases ao with hnil | ⟨gq, oq, hgq, hco⟩
              · rw [hnil] at hV1; exact absurd hV1 (Nat.not_lt_zero _)
              injection hgq with hgq
              injection hgq with q1 q2
              subst q1 q2
              have xo := hco k hV1
              obtain ⟨y', hy'⟩ : ∃ y', V.getD k 0 = y' := ⟨_, rfl⟩
              have hyy : y' = y := by rw [← hy']; exact HY.out
              rw [hy', hyy] at xo
              have w1 : IntKind.i64.wrap (F + y) = F + y := by rw [IntKind.wrap_i64]; omega
              have w2 : IntKind.i64.wrap (F + y - S) = F2 := by rw [IntKind.wrap_i64]; omega
              have hnp : decide (rm < S) = false := decide_eq_false (by omega)
              have hnq : ¬ rm < S := by omega
              clear hco hV1 hs1 hs2 e1 hmk2 hlm bs hy' hyy
              go_wp2_with fail
              go_roundw
              case rel => exact ⟨k + 1, by omega, by go_num, by rw [HF2.out], HB3.out⟩
              case measure => simp [intOf]; omega
        · go_wp2_with fail
          go_quiet (fail)
          go_wp2_with fail
          refine (CK _).mono ?_
          rintro e w3 ⟨v, rfl, O, C⟩
          obtain ⟨bk, ck, rfl, Ik⟩ := O.ints
          have HB3 := Lib.hid (bel_tr (below_drewN HB.out _) C)
          have HIk := Lib.hid Ik
          have HS := Lib.hid (And.intro HKL2 HFS2)
          clear O C Ik CK HKL2 HFS2 xo c2 c3
          go_wp2_with fail
          go_loopw [12, 13] (fun s j wi => ∃ m : Nat, m ≤ ks.length ∧ j = .int .i64 m ∧ s = .int .i64 (atSum X (ks.take m)) ∧ wi = w3) (fun _ j _ => ks.length - (intOf j).toNat)
          case atStart => exact ⟨0, Nat.zero_le _, rfl, rfl, rfl⟩
          case round =>
            obtain ⟨m, hm, rfl, rfl, rfl⟩ := hrel
            have bs := atSum_bd HXB.out (ks.take m)
            rw [List.length_take] at bs
            by_cases hlm : m < ks.length
            · have at1 := atSum_take X ks m hlm
              obtain ⟨j, hj, hjl⟩ := HKM.out _ (getD_mem (zs := ks) (k := m) hlm)
              have hjx : j < X.length := by have := HXL.out; omega
              have a6 := ints_below HI6.out HB3.out
              have ak := HIk.out
              rcases a6 with hnil | ⟨g6, o6, rfl, h6⟩
              · rw [hnil] at hjx; exact absurd hjx (Nat.not_lt_zero _)
              rcases ak with hnil | ⟨gk, okk, rfl, hkc⟩
              · rw [hnil] at hlm; exact absurd hlm (Nat.not_lt_zero _)
              have c6 := h6 j hjx
              have cm := hkc m hlm
              rw [hj] at cm
              rw [hj, show ((j : Int)).toNat = j from by omega] at at1
              have bx := HXB.out j
              generalize X.getD j 0 = x at c6 at1 bx
              generalize atSum X (ks.take m) = S at at1 bs
              have j0 : (0 : Int) ≤ (j : Int) := by omega
              have j1 : (j : Int) < (X.length : Int) := by omega
              have m0 : (0 : Int) ≤ (m : Int) := by omega
              have m2 : (m : Int) < (ks.length : Int) := by omega
              have ws : IntKind.i64.wrap (S + x) = S + x := by rw [IntKind.wrap_i64]; omega
              have HAT := Lib.hid at1
              clear at1 h6 hkc hj
              go_wp2_with fail
              go_roundw
              case rel => exact ⟨m + 1, by omega, by go_num, by rw [HAT.out], by trivial⟩
              case measure => simp [intOf]; omega
            · have hmk2 : m = ks.length := by omega
              have e1 : ks.take m = ks := List.take_of_length_le (by omega)
              rw [e1] at bs ⊢
              have hs1 := HS.out.1
              have hs2 := HS.out.2
              generalize atSum X ks = S at bs hs1 hs2
              have hlm2 : ¬ (m : Int) < (ks.length : Int) := by omega
              have ao := ints_below HIo.out HB3.out
              have hV1 : k < V.length := by have := HVL.out; omega
              rcases ao with hnil | ⟨gq, oq, hgq, hco⟩
              · rw [hnil] at hV1; exact absurd hV1 (Nat.not_lt_zero _)
              injection hgq with hgq
              injection hgq with q1 q2
              subst q1 q2
              have xo := hco k hV1
              obtain ⟨y', hy'⟩ : ∃ y', V.getD k 0 = y' := ⟨_, rfl⟩
              have hyy : y' = y := by rw [← hy']; exact HY.out
              rw [hy', hyy] at xo
              have w1 : IntKind.i64.wrap (F + y) = F + y := by rw [IntKind.wrap_i64]; omega
              have w2 : IntKind.i64.wrap (F + y - S) = F2 := by rw [IntKind.wrap_i64]; omega
              have hnp : decide ((y - ls) < S) = false := decide_eq_false (by omega)
              have hnq : ¬ (y - ls) < S := by omega
              clear hco hV1 hs1 hs2 e1 hmk2 hlm bs hy' hyy
              go_wp2_with fail
              go_roundw
              case rel => exact ⟨k + 1, by omega, by go_num, by rw [HF2.out], HB3.out⟩
              case measure => simp [intOf]; omega
      · have p2 : ¬ 0 < y - ls := p
        by_cases q : rm ≤ 0
        · go_wp2_with fail
          go_quiet (fail)
          go_wp2_with fail
          refine (CK _).mono ?_
          rintro e w3 ⟨v, rfl, O, C⟩
          obtain ⟨bk, ck, rfl, Ik⟩ := O.ints
          have HB3 := Lib.hid (bel_tr (below_drewN HB.out _) C)
          have HIk := Lib.hid Ik
          have HS := Lib.hid (And.intro HKL2 HFS2)
          clear O C Ik CK HKL2 HFS2 xo c2 c3
          go_wp2_with fail
          go_loopw [12, 13] (fun s j wi => ∃ m : Nat, m ≤ ks.length ∧ j = .int .i64 m ∧ s = .int .i64 (atSum X (ks.take m)) ∧ wi = w3) (fun _ j _ => ks.length - (intOf j).toNat)
          case atStart => exact ⟨0, Nat.zero_le _, rfl, rfl, rfl⟩
          case round =>
            obtain ⟨m, hm, rfl, rfl, rfl⟩ := hrel
            have bs := atSum_bd HXB.out (ks.take m)
            rw [List.length_take] at bs
            by_cases hlm : m < ks.length
            · have at1 := atSum_take X ks m hlm
              obtain ⟨j, hj, hjl⟩ := HKM.out _ (getD_mem (zs := ks) (k := m) hlm)
              have hjx : j < X.length := by have := HXL.out; omega
              have a6 := ints_below HI6.out HB3.out
              have ak := HIk.out
              rcases a6 with hnil | ⟨g6, o6, rfl, h6⟩
              · rw [hnil] at hjx; exact absurd hjx (Nat.not_lt_zero _)
              rcases ak with hnil | ⟨gk, okk, rfl, hkc⟩
              · rw [hnil] at hlm; exact absurd hlm (Nat.not_lt_zero _)
              have c6 := h6 j hjx
              have cm := hkc m hlm
              rw [hj] at cm
              rw [hj, show ((j : Int)).toNat = j from by omega] at at1
              have bx := HXB.out j
              generalize X.getD j 0 = x at c6 at1 bx
              generalize atSum X (ks.take m) = S at at1 bs
              have j0 : (0 : Int) ≤ (j : Int) := by omega
              have j1 : (j : Int) < (X.length : Int) := by omega
              have m0 : (0 : Int) ≤ (m : Int) := by omega
              have m2 : (m : Int) < (ks.length : Int) := by omega
              have ws : IntKind.i64.wrap (S + x) = S + x := by rw [IntKind.wrap_i64]; omega
              have HAT := Lib.hid at1
              clear at1 h6 hkc hj
              go_wp2_with fail
              go_roundw
              case rel => exact ⟨m + 1, by omega, by go_num, by rw [HAT.out], by trivial⟩
              case measure => simp [intOf]; omega
            · have hmk2 : m = ks.length := by omega
              have e1 : ks.take m = ks := List.take_of_length_le (by omega)
              rw [e1] at bs ⊢
              have hs1 := HS.out.1
              have hs2 := HS.out.2
              generalize atSum X ks = S at bs hs1 hs2
              have hlm2 : ¬ (m : Int) < (ks.length : Int) := by omega
              have ao := ints_below HIo.out HB3.out
              have hV1 : k < V.length := by have := HVL.out; omega
              rcases ao with hnil | ⟨gq, oq, hgq, hco⟩
              · rw [hnil] at hV1; exact absurd hV1 (Nat.not_lt_zero _)
              injection hgq with hgq
              injection hgq with q1 q2
              subst q1 q2
              have xo := hco k hV1
              obtain ⟨y', hy'⟩ : ∃ y', V.getD k 0 = y' := ⟨_, rfl⟩
              have hyy : y' = y := by rw [← hy']; exact HY.out
              rw [hy', hyy] at xo
              have w1 : IntKind.i64.wrap (F + y) = F + y := by rw [IntKind.wrap_i64]; omega
              have w2 : IntKind.i64.wrap (F + y - S) = F2 := by rw [IntKind.wrap_i64]; omega
              have hnp : decide (rm < S) = false := decide_eq_false (by omega)
              have hnq : ¬ rm < S := by omega
              clear hco hV1 hs1 hs2 e1 hmk2 hlm bs hy' hyy
              go_wp2_with fail
              go_roundw
              case rel => exact ⟨k + 1, by omega, by go_num, by rw [HF2.out], HB3.out⟩
              case measure => simp [intOf]; omega
        · go_wp2_with fail
          go_quiet (fail)
          go_wp2_with fail
          refine (CK _).mono ?_
          rintro e w3 ⟨v, rfl, O, C⟩
          obtain ⟨bk, ck, rfl, Ik⟩ := O.ints
          have HB3 := Lib.hid (bel_tr (below_drewN HB.out _) C)
          have HIk := Lib.hid Ik
          have HS := Lib.hid (And.intro HKL2 HFS2)
          clear O C Ik CK HKL2 HFS2 xo c2 c3
          go_wp2_with fail
          go_loopw [12, 13] (fun s j wi => ∃ m : Nat, m ≤ ks.length ∧ j = .int .i64 m ∧ s = .int .i64 (atSum X (ks.take m)) ∧ wi = w3) (fun _ j _ => ks.length - (intOf j).toNat)
          case atStart => exact ⟨0, Nat.zero_le _, rfl, rfl, rfl⟩
          case round =>
            obtain ⟨m, hm, rfl, rfl, rfl⟩ := hrel
            have bs := atSum_bd HXB.out (ks.take m)
            rw [List.length_take] at bs
            by_cases hlm : m < ks.length
            · have at1 := atSum_take X ks m hlm
              obtain ⟨j, hj, hjl⟩ := HKM.out _ (getD_mem (zs := ks) (k := m) hlm)
              have hjx : j < X.length := by have := HXL.out; omega
              have a6 := ints_below HI6.out HB3.out
              have ak := HIk.out
              rcases a6 with hnil | ⟨g6, o6, rfl, h6⟩
              · rw [hnil] at hjx; exact absurd hjx (Nat.not_lt_zero _)
              rcases ak with hnil | ⟨gk, okk, rfl, hkc⟩
              · rw [hnil] at hlm; exact absurd hlm (Nat.not_lt_zero _)
              have c6 := h6 j hjx
              have cm := hkc m hlm
              rw [hj] at cm
              rw [hj, show ((j : Int)).toNat = j from by omega] at at1
              have bx := HXB.out j
              generalize X.getD j 0 = x at c6 at1 bx
              generalize atSum X (ks.take m) = S at at1 bs
              have j0 : (0 : Int) ≤ (j : Int) := by omega
              have j1 : (j : Int) < (X.length : Int) := by omega
              have m0 : (0 : Int) ≤ (m : Int) := by omega
              have m2 : (m : Int) < (ks.length : Int) := by omega
              have ws : IntKind.i64.wrap (S + x) = S + x := by rw [IntKind.wrap_i64]; omega
              have HAT := Lib.hid at1
              clear at1 h6 hkc hj
              go_wp2_with fail
              go_roundw
              case rel => exact ⟨m + 1, by omega, by go_num, by rw [HAT.out], by trivial⟩
              case measure => simp [intOf]; omega
            · have hmk2 : m = ks.length := by omega
              have e1 : ks.take m = ks := List.take_of_length_le (by omega)
              rw [e1] at bs ⊢
              have hs1 := HS.out.1
              have hs2 := HS.out.2
              generalize atSum X ks = S at bs hs1 hs2
              have hlm2 : ¬ (m : Int) < (ks.length : Int) := by omega
              have ao := ints_below HIo.out HB3.out
              have hV1 : k < V.length := by have := HVL.out; omega
              rcases ao with hnil | ⟨gq, oq, hgq, hco⟩
              · rw [hnil] at hV1; exact absurd hV1 (Nat.not_lt_zero _)
              injection hgq with hgq
              injection hgq with q1 q2
              subst q1 q2
              have xo := hco k hV1
              obtain ⟨y', hy'⟩ : ∃ y', V.getD k 0 = y' := ⟨_, rfl⟩
              have hyy : y' = y := by rw [← hy']; exact HY.out
              rw [hy', hyy] at xo
              have w1 : IntKind.i64.wrap (F + y) = F + y := by rw [IntKind.wrap_i64]; omega
              have w2 : IntKind.i64.wrap (F + y - S) = F2 := by rw [IntKind.wrap_i64]; omega
              have hnp : decide ((0 : Int) < S) = false := decide_eq_false (by omega)
              have hnq : ¬ (0 : Int) < S := by omega
              clear hco hV1 hs1 hs2 e1 hmk2 hlm bs hy' hyy
              go_wp2_with fail
              go_roundw
              case rel => exact ⟨k + 1, by omega, by go_num, by rw [HF2.out], HB3.out⟩
              case measure => simp [intOf]; omega
    · obtain rfl : k = xs.length := by omega
      have B := bel_tr HB0.out hB
      rw [HEND.out]
      clear hB
      go_wp2_with fail
      go_ret
      exact ⟨rfl, B⟩

set_option maxRecDepth 100000 in
theorem lifted (os : Os) (started : os.Started) (H : Type) (enc : TypeId × Value → H) :
    ReturnsInHanded {} Try.checked os 9 .any (Rows.fnMissingAtSumSpec.pre6 enc Try.prog Try.f9 Rows.fnMissingAtSumRow.domain false) (Rows.fnMissingAtSumSpec.post enc Try.prog Try.f9 false true false false) := by
  refine returnsInHanded_of_change (C := Try.checked) own started (by kernel_rfl) Try.func9
    (ChangeSpec.witness6 (enc := enc) (C := Try.checked) false ⟨#[], #[.slice none 0 0], []⟩ 8 (by kernel_rfl) (by kernel_rfl) (by kernel_rfl) (by kernel_rfl)) ?_
  intro W base args ds gs before hval0 hW hcnd _
  have hval : ∀ (j : Nat) t v, Try.f9.params[j]? = some t → args[j]? = some v → Value.okWide Try.prog W .any base t v := hval0
  have hW' := hW
  obtain ⟨p, q, hA0, hV, rfl, hfz, hnd⟩ := hW
  have hA : DataW.TrodAll enc Try.prog W 0 (fun _ => true) true Try.f9.params.toList args.toList ds p := hA0
  rw [Try.params9] at hA hval
  obtain ⟨v0, vs0, e0, es0, p0, q0, hargs, rfl, rfl, h0, r0⟩ := trodAll_cons hA
  obtain ⟨rfl, rfl, rfl⟩ := trodAll_nil r0
  obtain rfl : args = #[v0] := by cases args; simp_all
  obtain ⟨rfl, rfl⟩ := trodVars_none hV
  have k0 := h0
  have lt0 : ∀ x ∈ p0, x.block < W.heap.size := by obtain ⟨m, hm⟩ := k0; exact DataW.trod_lt m _ _ _ hm
  obtain ⟨a0, len0, cap0, rfl⟩ := okWide_slice Try.underlying38 (hval 0 38 v0 rfl rfl)
  obtain ⟨z0, w0⟩ : ∃ zs, IsRow .u8 W a0 len0 cap0 zs := by
    obtain ⟨fuel, hf⟩ := h0
    rcases open_ints Try.underlying38 Try.underlying5 (by kernel_rfl) hf with ⟨hcs, _⟩ | ⟨x, l, c, zs, hcs, _, hl, hm, hz, _, hcell, hwz⟩
    · simp [Value.cells] at hcs
      obtain ⟨rfl, rfl, rfl⟩ := hcs
      exact ⟨[], .inl ⟨rfl, rfl, rfl, rfl⟩⟩
    · simp [Value.cells] at hcs
      obtain ⟨rfl, rfl, rfl⟩ := hcs
      exact ⟨zs, .inr ⟨_, rfl, hl, hm, by simpa using hz, hcell, hwz⟩⟩
  clear hA0 hval0
  refine (walk a0 len0 cap0 z0 W w0).mono fun e W' ⟨he, bel⟩ => ?_
  subst he
  exact ⟨_, rfl, _, _, _, [], _, [], hW', trodAll_mk1 (shut_bool Try.underlying4 _), (trodAll_cons_mk (Below.trod laidOut (by kernel_rfl) (of_decide_eq_true (by kernel_rfl)) k0 bel lt0) trodAll_mk0), rfl, bel.frame _, fun h => by cases h⟩

theorem over : Rows.fnMissingAtSumRow.holds Try.pinned (OpenSpec.ofChange Rows.fnMissingAtSumSpec) :=
  OpenClaim.holds_of_wide 9 Try.f9 rfl rfl rfl rfl rfl rfl rfl ⟨rfl, rfl, rfl, rfl, rfl⟩ rfl rfl rfl rfl rfl (by kernel_rfl) Try.func9 (by kernel_rfl)
    (of_decide_eq_true (by kernel_rfl)) (by unfold Func.isWrapper; first | (rw [if_pos (by decide +kernel)]; kernel_rfl) | (rw [if_neg (by decide +kernel)]; exact ⟨rfl, rfl⟩))
    (fun os started H enc _ => lifted os started H enc)

end Go.Proofs.Ytigapnbpgbfbhaa.fnMissingAtSum
namespace Go.Proofs.Ytigapnbpgbfbhaa
/-- the statement -/
theorem fnMissingAtSum_holds : Rows.FnMissingAtSumSaid := fnMissingAtSum.over
end Go.Proofs.Ytigapnbpgbfbhaa
