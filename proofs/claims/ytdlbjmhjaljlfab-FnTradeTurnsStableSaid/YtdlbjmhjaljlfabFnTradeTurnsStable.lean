/- For every input the law answers true, and its argument reads afterwards as before: no two or three would rather trade among themselves. No condition. -/
import Derived.Test.YtdlbjmhjaljlfabRows
import Derived.Test.YtdlbjmhjaljlfabDrawWf
import Derived.Test.YtdlbjmhjaljlfabTrdT
import Derived.Test.YtdlbjmhjaljlfabTrdL
import Derived.Test.YtdlbjmhjaljlfabRankI
import Derived.Test.YtdlbjmhjaljlfabLawIn
import Derived.Test.YtdlbjmhjaljlfabEqI
import Derived.WalkKit
import Derived.Deep.RegionHeld3
import Derived.Deep.DeepCutAuto
import Derived.Deep.QuietTactic
import Derived.BigQuiet
import Derived.ProofKit
import Derived.OpenShut
import Derived.ShutString
import Derived.ChangeOld
import Derived.Below
import Derived.Lib.SmallJoins
namespace Go.Proofs.Ytdlbjmhjaljlfab.fnTradeTurnsStable
open Go.ChangeShapes Go.WideShapes Go.ChangeAt Go.RowKit Go.Joins
open Go.ChangeMaps (open_string shut_string)
set_option linter.unusedVariables false
set_option linter.unusedSimpArgs false

theorem own : ownKnob Try.prog.godebug = none := by kernel_rfl
theorem laidOut : laidOutB Try.prog = true := by kernel_rfl

set_option maxRecDepth 100000 in
set_option maxHeartbeats 16000000 in
theorem walk (a0 : Option Addr) (len0 cap0 : Nat) (z0 : List Int) (w : World) (w0 : IsRow .u8 w a0 len0 cap0 z0) :
    Calls Try.prog 4 #[.slice a0 len0 cap0] w fun e w' => e = .returned (.bool true) ∧ Below w.heap.size w w' := by
  by_cases big : (1048576 : Int) < (len0 : Int)
  · go_enter Try.func4, Try.ntmps4
    go_wp2
    go_ret
    exact ⟨rfl, Below.refl _ _⟩
  go_enter Try.func4, Try.ntmps4
  go_wp2_with fail
  refine (drawTradeTurns a0 len0 cap0 z0 _ w0).mono ?_
  rintro e u1 ⟨b, cp, rs, rfl, hl8, hlc, hi, B⟩
  clear w0 big
  have n1 : rs.length ≤ 1048576 := by omega
  have HI := Lib.hid hi
  have D := Below.refl u1.heap.size u1
  have nR : (tradeV rs).length ≤ 1048576 := by
    cases hv : wishB rs with
    | false => rw [tr_no hv]; simp
    | true => rw [(trade_ttc hv).1]; exact n1
  have CI : Hid (∀ W, Below u1.heap.size u1 W → Calls Try.prog 16 #[.slice b rs.length cp] W (OutI W (tradeV rs))) := fun W hW => iTrade b cp rs W (rows_below HI.out hW) n1
  have CS : Hid (∀ W, Below u1.heap.size u1 W → Calls Try.prog 18 #[.slice b rs.length cp] W (OutI W (tradeV rs))) := fun W hW => sTrade b cp rs W (rows_below HI.out hW) n1
  have CV : Hid (∀ W, Below u1.heap.size u1 W → Calls Try.prog 19 #[.slice b rs.length cp] W fun e w' => e = .returned (.bool (wishB rs)) ∧ W = w') := fun W hW => iVW b cp rs W (rows_below HI.out hW) n1
  have CR : Hid (∀ (i x : Int) W, Below u1.heap.size u1 W → Calls Try.prog 20 #[.slice b rs.length cp, .int .i64 i, .int .i64 x] W fun e w' => e = .returned (.int .i64 (rkV rs i x)) ∧ W = w') := fun i x W hW => iRank b cp rs i x W (rows_below HI.out hW) n1
  clear hi
  cases hv : wishB rs with
  | false =>
    rw [hv] at CV
    clear hv CR
    generalize tradeV rs = R at *
    go_wp2_with fail
    refine (CI.out _ D).mono ?_
    rintro e u2 ⟨v1, rfl, O1, C⟩
    obtain ⟨b1, c1, rfl, _⟩ := O1.ints
    replace B := bel_tr B C
    replace D := bel_tr D C
    clear C
    go_wp2_with fail
    refine (CS.out _ D).mono ?_
    rintro e u3 ⟨v2, rfl, O2, C⟩
    obtain ⟨b2, c2, rfl, _⟩ := O2.ints
    replace B := bel_tr B C
    replace D := bel_tr D C
    replace O1 := O1.of_block C
    clear C
    go_wp2_with fail
    refine (eqInts _ _ _ _ R _ O1.at_ O2.at_ nR).mono ?_
    rintro e u4 ⟨rfl, C⟩
    replace B := bel_tr B C
    replace D := bel_tr D C
    replace O1 := O1.of_block C
    clear C O2
    go_wp2_with fail
    refine (CV.out _ D).mono ?_
    rintro e w' ⟨rfl, rfl⟩
    go_wp2_with fail
    refine (CS.out _ D).mono ?_
    rintro e u5 ⟨v3, rfl, O3, C⟩
    obtain ⟨b3, c3, rfl, _⟩ := O3.ints
    replace B := bel_tr B C
    replace O1 := O1.of_block C
    clear C D
    go_wp2_with fail
    refine (eqInts _ _ _ _ R _ O1.at_ O3.at_ nR).mono ?_
    rintro e u6 ⟨rfl, C⟩
    replace B := bel_tr B C
    clear C
    go_wp2_with fail
    go_ret
    exact ⟨rfl, B⟩
  | true =>
    rw [hv] at CV
    obtain ⟨hl, hnat, st, T⟩ := trade_ttc hv
    have HL := Lib.hid hl
    have HOUT : Hid (∀ k, k < (tradeV rs).length → ∃ y : Nat, (tradeV rs).getD k 0 = (y : Int) ∧ y < (tradeV rs).length) := fun k hk => by
      rw [hl] at hk ⊢
      obtain ⟨y, hy⟩ := hnat k hk
      have := T.lt k hk
      simp only [hy] at this
      exact ⟨y, hy, by simpa using this⟩
    have HBD : Hid (∀ i j, i < (tradeV rs).length → j < (tradeV rs).length → rkN rs i j ≤ 1048576) := fun i j hi hj => by
      rw [hl] at hi hj
      have := (rk_ex hv hi hj).1
      have := (wish_row hv hi).1
      omega
    have HL2 : Hid (∀ a b oa ob : Nat, a < (tradeV rs).length → b < (tradeV rs).length → (tradeV rs).getD a 0 = (oa : Int) → (tradeV rs).getD b 0 = (ob : Int) → rkN rs a b ≤ rkN rs a oa → rkN rs b a ≤ rkN rs b ob → rkN rs a b = rkN rs a oa ∧ rkN rs b a = rkN rs b ob) := fun a b oa ob ha hb h1 h2 x y => by
      rw [hl] at ha hb
      have := ttc_two (rk_inj hv) T ha hb
      simp only [h1, h2, Int.toNat_natCast] at this
      exact this x y
    have HL3 : Hid (∀ a b c oa ob oc : Nat, a < (tradeV rs).length → b < (tradeV rs).length → c < (tradeV rs).length → (tradeV rs).getD a 0 = (oa : Int) → (tradeV rs).getD b 0 = (ob : Int) → (tradeV rs).getD c 0 = (oc : Int) → rkN rs a b ≤ rkN rs a oa → rkN rs b c ≤ rkN rs b ob → rkN rs c a ≤ rkN rs c oc → rkN rs a b = rkN rs a oa ∧ rkN rs b c = rkN rs b ob ∧ rkN rs c a = rkN rs c oc) := fun a b c oa ob oc ha hb hc h1 h2 h3 x y z => by
      rw [hl] at ha hb hc
      have := ttc_three (rk_inj hv) T ha hb hc
      simp only [h1, h2, h3, Int.toNat_natCast] at this
      exact this x y z
    have CRK : Hid (∀ (i j : Nat) W, i < (tradeV rs).length → j < (tradeV rs).length → Below u1.heap.size u1 W → Calls Try.prog 20 #[.slice b rs.length cp, .int .i64 (i : Int), .int .i64 (j : Int)] W fun e w' => e = .returned (.int .i64 ((rkN rs i j : Nat) : Int)) ∧ W = w') := fun i j W hi hj hW => by
      rw [hl] at hi hj
      have := CR.out (i : Int) (j : Int) W hW
      obtain ⟨p1, p2, p3⟩ := rk_ex hv hi hj
      rw [rk_yes hv hi, show plcV (rs.getD i []) (j : Int) = ((rkN rs i j : Nat) : Int) from plc_at p1 p3 p2] at this
      exact this
    clear hv hnat T hl CR
    generalize tradeV rs = R at *
    go_wp2_with fail
    refine (CI.out _ D).mono ?_
    rintro e u2 ⟨v1, rfl, O1, C⟩
    obtain ⟨b1, c1, rfl, _⟩ := O1.ints
    replace B := bel_tr B C
    replace D := bel_tr D C
    clear C
    go_wp2_with fail
    refine (CS.out _ D).mono ?_
    rintro e u3 ⟨v2, rfl, O2, C⟩
    obtain ⟨b2, c2, rfl, _⟩ := O2.ints
    replace B := bel_tr B C
    replace D := bel_tr D C
    replace O1 := O1.of_block C
    clear C
    go_wp2_with fail
    refine (eqInts _ _ _ _ R _ O1.at_ O2.at_ nR).mono ?_
    rintro e u4 ⟨rfl, C⟩
    replace B := bel_tr B C
    replace D := bel_tr D C
    replace O1 := O1.of_block C
    clear C O2
    go_wp2_with fail
    refine (CV.out _ D).mono ?_
    rintro e w' ⟨rfl, rfl⟩
    clear CI CS CV
    obtain ⟨bw, hbw⟩ : ∃ x, x = b := ⟨_, rfl⟩
    subst hbw
    obtain ⟨w9, h9⟩ : ∃ W, W = u4 := ⟨_, rfl⟩
    subst h9
    go_wp2_with fail
    go_loopw [5] (fun i wr => ∃ a : Nat, a ≤ R.length ∧ i = .int .i64 a ∧ wr = w9) (fun i _ => R.length - (intOf i).toNat)
    case atStart => exact ⟨0, Nat.zero_le _, rfl, rfl⟩
    case round =>
      obtain ⟨a, ha, rfl, rfl⟩ := hrel
      by_cases hal : a < R.length
      · obtain ⟨g1, rfl, _⟩ := OwnI.form_ O1 (by omega)
        obtain ⟨w9, h9⟩ : ∃ W, W = wr := ⟨_, rfl⟩
        subst h9
        go_wp2_with fail
        go_loopw [6] (fun i wr => ∃ b : Nat, b ≤ R.length ∧ i = .int .i64 b ∧ wr = w9) (fun i _ => R.length - (intOf i).toNat)
        case atStart => exact ⟨0, Nat.zero_le _, rfl, rfl⟩
        case round =>
          obtain ⟨b, hb, rfl, rfl⟩ := hrel
          by_cases hbl : b < R.length
          · obtain ⟨w9, h9⟩ : ∃ W, W = wr := ⟨_, rfl⟩
            subst h9
            obtain ⟨oa, hoa, loa⟩ := HOUT.out a hal
            obtain ⟨ob, hob, lob⟩ := HOUT.out b hbl
            have xa := O1.cell hal
            rw [hoa] at xa
            have xb := O1.cell hbl
            rw [hob] at xb
            have C1 := CRK.out a oa _ hal loa D
            have C2 := CRK.out a b _ hal hbl D
            have C3 := CRK.out b ob _ hbl lob D
            have C4 := CRK.out b a _ hbl hal D
            have h2 := HL2.out a b oa ob hal hbl hoa hob
            have H3 : Hid (∀ c oc : Nat, c < R.length → R.getD c 0 = (oc : Int) → rkN rs a b ≤ rkN rs a oa → rkN rs b c ≤ rkN rs b ob → rkN rs c a ≤ rkN rs c oc → rkN rs a b = rkN rs a oa ∧ rkN rs b c = rkN rs b ob ∧ rkN rs c a = rkN rs c oc) := fun c oc hc ho => HL3.out a b c oa ob oc hal hbl hc hoa hob ho
            have n_1 := HBD.out a oa hal loa
            have n_2 := HBD.out a b hal hbl
            have n_3 := HBD.out b ob hbl lob
            have n_4 := HBD.out b a hbl hal
            obtain ⟨p1, g1_⟩ : ∃ p, rkN rs a oa = p := ⟨_, rfl⟩
            obtain ⟨p2, g2_⟩ : ∃ p, rkN rs a b = p := ⟨_, rfl⟩
            obtain ⟨p3, g3_⟩ : ∃ p, rkN rs b ob = p := ⟨_, rfl⟩
            obtain ⟨p4, g4_⟩ : ∃ p, rkN rs b a = p := ⟨_, rfl⟩
            rw [g1_] at C1 h2 H3 n_1
            rw [g2_] at C2 h2 H3 n_2
            rw [g3_] at C3 h2 H3 n_3
            rw [g4_] at C4 h2 n_4
            have m_1 := n_1
            have m_2 := n_2
            have m_3 := n_3
            have z1 : IntKind.i64.wrap ((p1 : Int) - (p2 : Int)) = (p1 : Int) - p2 := by rw [IntKind.wrap_i64]; omega
            have z2 : IntKind.i64.wrap ((p3 : Int) - (p4 : Int)) = (p3 : Int) - p4 := by rw [IntKind.wrap_i64]; omega
            obtain ⟨X, hX⟩ : ∃ X, (p1 : Int) - p2 = X := ⟨_, rfl⟩
            obtain ⟨Y, hY⟩ : ∃ Y, (p3 : Int) - p4 = Y := ⟨_, rfl⟩
            rw [hX] at z1
            rw [hY] at z2
            have z3 : IntKind.i64.wrap (X + Y) = X + Y := by rw [IntKind.wrap_i64]; omega
            have HC1 := Lib.hid C1
            have HC2 := Lib.hid C2
            have HC3 := Lib.hid C3
            have HC4 := Lib.hid C4
            clear C1 C2 C3 C4 g1_ g2_ g3_ g4_ hoa hob loa lob
            have a0_ : (0 : Int) ≤ (a : Int) := by omega
            have a1_ : (a : Int) < (R.length : Int) := by omega
            have b0_ : (0 : Int) ≤ (b : Int) := by omega
            have b1_ : (b : Int) < (R.length : Int) := by omega
            by_cases qa : a = b
            · have e_ab0 : ((a : Int) != (b : Int)) = false := by rw [bne_eq_false_iff_eq]; omega
              have f_ab0 : (a != b) = false := by rw [bne_eq_false_iff_eq]; omega
              clear qa
              clear h2 n_1 n_2 n_3 n_4
              go_wp2_with fail
              refine HC1.out.mono ?_
              rintro e w' ⟨rfl, rfl⟩
              go_wp2_with fail
              refine HC2.out.mono ?_
              rintro e w' ⟨rfl, rfl⟩
              go_wp2_with fail
              refine HC3.out.mono ?_
              rintro e w' ⟨rfl, rfl⟩
              go_wp2_with fail
              refine HC4.out.mono ?_
              rintro e w' ⟨rfl, rfl⟩
              go_wp2_with fail
              go_loopw [9] (fun i wr => ∃ c : Nat, c ≤ R.length ∧ i = .int .i64 c ∧ wr = w9) (fun i _ => R.length - (intOf i).toNat)
              case atStart => exact ⟨0, Nat.zero_le _, rfl, rfl⟩
              case round =>
                obtain ⟨c, hc, rfl, rfl⟩ := hrel
                by_cases hcl : c < R.length
                · obtain ⟨oc, hoc, loc⟩ := HOUT.out c hcl
                  have xc := O1.cell hcl
                  rw [hoc] at xc
                  have K1 := CRK.out b c _ hbl hcl D
                  have K2 := CRK.out c oc _ hcl loc D
                  have K3 := CRK.out c a _ hcl hal D
                  obtain ⟨m1, m2, m3⟩ : rkN rs b c ≤ 1048576 ∧ rkN rs c oc ≤ 1048576 ∧ rkN rs c a ≤ 1048576 := ⟨HBD.out b c hbl hcl, HBD.out c oc hcl loc, HBD.out c a hcl hal⟩
                  have h3 := H3.out c oc hcl hoc
                  generalize rkN rs b c = s1 at *
                  generalize rkN rs c oc = s2 at *
                  generalize rkN rs c a = s3 at *
                  have y1 : IntKind.i64.wrap ((p3 : Int) - (s1 : Int)) = (p3 : Int) - s1 := by rw [IntKind.wrap_i64]; omega
                  have y2 : IntKind.i64.wrap ((s2 : Int) - (s3 : Int)) = (s2 : Int) - s3 := by rw [IntKind.wrap_i64]; omega
                  obtain ⟨V, hV⟩ : ∃ V, (p3 : Int) - s1 = V := ⟨_, rfl⟩
                  obtain ⟨Z, hZ⟩ : ∃ Z, (s2 : Int) - s3 = Z := ⟨_, rfl⟩
                  replace y1 := y1.trans hV
                  replace y2 := y2.trans hZ
                  have HK1 := Lib.hid K1
                  have HK2 := Lib.hid K2
                  have HK3 := Lib.hid K3
                  have c0_ : (0 : Int) ≤ (c : Int) := by omega
                  have c1_ : (c : Int) < (R.length : Int) := by omega
                  have t1 : IntKind.i64.wrap (X + V) = X + V := by rw [IntKind.wrap_i64]; omega
                  have t2 : IntKind.i64.wrap (X + V + Z) = X + V + Z := by rw [IntKind.wrap_i64]; omega
                  clear h3 hV hZ m1 m2 m3 K1 K2 K3 hoc loc
                  go_wp2_with fail
                  refine HC3.out.mono ?_
                  rintro e w' ⟨rfl, rfl⟩
                  go_wp2_with fail
                  refine HK1.out.mono ?_
                  rintro e w' ⟨rfl, rfl⟩
                  go_wp2_with fail
                  refine HK2.out.mono ?_
                  rintro e w' ⟨rfl, rfl⟩
                  go_wp2_with fail
                  refine HK3.out.mono ?_
                  rintro e w' ⟨rfl, rfl⟩
                  go_wp2_with fail
                  go_roundw
                  case rel => exact ⟨c + 1, by omega, by go_num, by first | exact trivial | rfl | simp⟩
                  case measure => simp [intOf]; omega
                · obtain rfl : c = R.length := by omega
                  go_wp2_with fail
                  go_roundw
                  case rel => exact ⟨b + 1, by omega, by go_num, by first | exact trivial | rfl | simp⟩
                  case measure => simp [intOf]; omega
            · by_cases qx : X < 0
              · have e_ab1 : ((a : Int) != (b : Int)) = true := by rw [bne_iff_ne]; omega
                have f_ab1 : (a != b) = true := by rw [bne_iff_ne]; omega
                have e_X : decide (0 ≤ X) = false := decide_eq_false (by omega)
                clear h2 n_1 n_2 n_3 n_4
                go_wp2_with fail
                refine HC1.out.mono ?_
                rintro e w' ⟨rfl, rfl⟩
                go_wp2_with fail
                refine HC2.out.mono ?_
                rintro e w' ⟨rfl, rfl⟩
                go_wp2_with fail
                refine HC3.out.mono ?_
                rintro e w' ⟨rfl, rfl⟩
                go_wp2_with fail
                refine HC4.out.mono ?_
                rintro e w' ⟨rfl, rfl⟩
                go_wp2_with fail
                go_loopw [9] (fun i wr => ∃ c : Nat, c ≤ R.length ∧ i = .int .i64 c ∧ wr = w9) (fun i _ => R.length - (intOf i).toNat)
                case atStart => exact ⟨0, Nat.zero_le _, rfl, rfl⟩
                case round =>
                  obtain ⟨c, hc, rfl, rfl⟩ := hrel
                  by_cases hcl : c < R.length
                  · obtain ⟨oc, hoc, loc⟩ := HOUT.out c hcl
                    have xc := O1.cell hcl
                    rw [hoc] at xc
                    have K1 := CRK.out b c _ hbl hcl D
                    have K2 := CRK.out c oc _ hcl loc D
                    have K3 := CRK.out c a _ hcl hal D
                    obtain ⟨m1, m2, m3⟩ : rkN rs b c ≤ 1048576 ∧ rkN rs c oc ≤ 1048576 ∧ rkN rs c a ≤ 1048576 := ⟨HBD.out b c hbl hcl, HBD.out c oc hcl loc, HBD.out c a hcl hal⟩
                    have h3 := H3.out c oc hcl hoc
                    generalize rkN rs b c = s1 at *
                    generalize rkN rs c oc = s2 at *
                    generalize rkN rs c a = s3 at *
                    have y1 : IntKind.i64.wrap ((p3 : Int) - (s1 : Int)) = (p3 : Int) - s1 := by rw [IntKind.wrap_i64]; omega
                    have y2 : IntKind.i64.wrap ((s2 : Int) - (s3 : Int)) = (s2 : Int) - s3 := by rw [IntKind.wrap_i64]; omega
                    obtain ⟨V, hV⟩ : ∃ V, (p3 : Int) - s1 = V := ⟨_, rfl⟩
                    obtain ⟨Z, hZ⟩ : ∃ Z, (s2 : Int) - s3 = Z := ⟨_, rfl⟩
                    replace y1 := y1.trans hV
                    replace y2 := y2.trans hZ
                    have HK1 := Lib.hid K1
                    have HK2 := Lib.hid K2
                    have HK3 := Lib.hid K3
                    have c0_ : (0 : Int) ≤ (c : Int) := by omega
                    have c1_ : (c : Int) < (R.length : Int) := by omega
                    have t1 : IntKind.i64.wrap (X + V) = X + V := by rw [IntKind.wrap_i64]; omega
                    have t2 : IntKind.i64.wrap (X + V + Z) = X + V + Z := by rw [IntKind.wrap_i64]; omega
                    by_cases qq : b = c
                    · have e_bc0 : ((b : Int) != (c : Int)) = false := by rw [bne_eq_false_iff_eq]; omega
                      have f_bc0 : (b != c) = false := by rw [bne_eq_false_iff_eq]; omega
                      clear qq
                      clear h3 hV hZ m1 m2 m3 K1 K2 K3 hoc loc
                      go_wp2_with fail
                      refine HC3.out.mono ?_
                      rintro e w' ⟨rfl, rfl⟩
                      go_wp2_with fail
                      refine HK1.out.mono ?_
                      rintro e w' ⟨rfl, rfl⟩
                      go_wp2_with fail
                      refine HK2.out.mono ?_
                      rintro e w' ⟨rfl, rfl⟩
                      go_wp2_with fail
                      refine HK3.out.mono ?_
                      rintro e w' ⟨rfl, rfl⟩
                      go_wp2_with fail
                      go_roundw
                      case rel => exact ⟨c + 1, by omega, by go_num, by first | exact trivial | rfl | simp⟩
                      case measure => simp [intOf]; omega
                    · by_cases qq : a = c
                      · have e_bc1 : ((b : Int) != (c : Int)) = true := by rw [bne_iff_ne]; omega
                        have f_bc1 : (b != c) = true := by rw [bne_iff_ne]; omega
                        have e_ac0 : ((a : Int) != (c : Int)) = false := by rw [bne_eq_false_iff_eq]; omega
                        have f_ac0 : (a != c) = false := by rw [bne_eq_false_iff_eq]; omega
                        clear qq
                        clear h3 hV hZ m1 m2 m3 K1 K2 K3 hoc loc
                        go_wp2_with fail
                        refine HC3.out.mono ?_
                        rintro e w' ⟨rfl, rfl⟩
                        go_wp2_with fail
                        refine HK1.out.mono ?_
                        rintro e w' ⟨rfl, rfl⟩
                        go_wp2_with fail
                        refine HK2.out.mono ?_
                        rintro e w' ⟨rfl, rfl⟩
                        go_wp2_with fail
                        refine HK3.out.mono ?_
                        rintro e w' ⟨rfl, rfl⟩
                        go_wp2_with fail
                        go_roundw
                        case rel => exact ⟨c + 1, by omega, by go_num, by first | exact trivial | rfl | simp⟩
                        case measure => simp [intOf]; omega
                      · have e_bc1 : ((b : Int) != (c : Int)) = true := by rw [bne_iff_ne]; omega
                        have f_bc1 : (b != c) = true := by rw [bne_iff_ne]; omega
                        have e_ac1 : ((a : Int) != (c : Int)) = true := by rw [bne_iff_ne]; omega
                        have f_ac1 : (a != c) = true := by rw [bne_iff_ne]; omega
                        clear qq
                        clear h3 hV hZ m1 m2 m3 K1 K2 K3 hoc loc
                        go_wp2_with fail
                        refine HC3.out.mono ?_
                        rintro e w' ⟨rfl, rfl⟩
                        go_wp2_with fail
                        refine HK1.out.mono ?_
                        rintro e w' ⟨rfl, rfl⟩
                        go_wp2_with fail
                        refine HK2.out.mono ?_
                        rintro e w' ⟨rfl, rfl⟩
                        go_wp2_with fail
                        refine HK3.out.mono ?_
                        rintro e w' ⟨rfl, rfl⟩
                        go_wp2_with fail
                        go_roundw
                        case rel => exact ⟨c + 1, by omega, by go_num, by first | exact trivial | rfl | simp⟩
                        case measure => simp [intOf]; omega
                  · obtain rfl : c = R.length := by omega
                    go_wp2_with fail
                    go_roundw
                    case rel => exact ⟨b + 1, by omega, by go_num, by first | exact trivial | rfl | simp⟩
                    case measure => simp [intOf]; omega
              · by_cases qy : Y < 0
                · have e_ab1 : ((a : Int) != (b : Int)) = true := by rw [bne_iff_ne]; omega
                  have f_ab1 : (a != b) = true := by rw [bne_iff_ne]; omega
                  have e_X : decide (0 ≤ X) = true := decide_eq_true (by omega)
                  have e_Y : decide (0 ≤ Y) = false := decide_eq_false (by omega)
                  clear h2 n_1 n_2 n_3 n_4
                  go_wp2_with fail
                  refine HC1.out.mono ?_
                  rintro e w' ⟨rfl, rfl⟩
                  go_wp2_with fail
                  refine HC2.out.mono ?_
                  rintro e w' ⟨rfl, rfl⟩
                  go_wp2_with fail
                  refine HC3.out.mono ?_
                  rintro e w' ⟨rfl, rfl⟩
                  go_wp2_with fail
                  refine HC4.out.mono ?_
                  rintro e w' ⟨rfl, rfl⟩
                  go_wp2_with fail
                  go_loopw [9] (fun i wr => ∃ c : Nat, c ≤ R.length ∧ i = .int .i64 c ∧ wr = w9) (fun i _ => R.length - (intOf i).toNat)
                  case atStart => exact ⟨0, Nat.zero_le _, rfl, rfl⟩
                  case round =>
                    obtain ⟨c, hc, rfl, rfl⟩ := hrel
                    by_cases hcl : c < R.length
                    · obtain ⟨oc, hoc, loc⟩ := HOUT.out c hcl
                      have xc := O1.cell hcl
                      rw [hoc] at xc
                      have K1 := CRK.out b c _ hbl hcl D
                      have K2 := CRK.out c oc _ hcl loc D
                      have K3 := CRK.out c a _ hcl hal D
                      obtain ⟨m1, m2, m3⟩ : rkN rs b c ≤ 1048576 ∧ rkN rs c oc ≤ 1048576 ∧ rkN rs c a ≤ 1048576 := ⟨HBD.out b c hbl hcl, HBD.out c oc hcl loc, HBD.out c a hcl hal⟩
                      have h3 := H3.out c oc hcl hoc
                      generalize rkN rs b c = s1 at *
                      generalize rkN rs c oc = s2 at *
                      generalize rkN rs c a = s3 at *
                      have y1 : IntKind.i64.wrap ((p3 : Int) - (s1 : Int)) = (p3 : Int) - s1 := by rw [IntKind.wrap_i64]; omega
                      have y2 : IntKind.i64.wrap ((s2 : Int) - (s3 : Int)) = (s2 : Int) - s3 := by rw [IntKind.wrap_i64]; omega
                      obtain ⟨V, hV⟩ : ∃ V, (p3 : Int) - s1 = V := ⟨_, rfl⟩
                      obtain ⟨Z, hZ⟩ : ∃ Z, (s2 : Int) - s3 = Z := ⟨_, rfl⟩
                      replace y1 := y1.trans hV
                      replace y2 := y2.trans hZ
                      have HK1 := Lib.hid K1
                      have HK2 := Lib.hid K2
                      have HK3 := Lib.hid K3
                      have c0_ : (0 : Int) ≤ (c : Int) := by omega
                      have c1_ : (c : Int) < (R.length : Int) := by omega
                      have t1 : IntKind.i64.wrap (X + V) = X + V := by rw [IntKind.wrap_i64]; omega
                      have t2 : IntKind.i64.wrap (X + V + Z) = X + V + Z := by rw [IntKind.wrap_i64]; omega
                      by_cases qq : b = c
                      · have e_bc0 : ((b : Int) != (c : Int)) = false := by rw [bne_eq_false_iff_eq]; omega
                        have f_bc0 : (b != c) = false := by rw [bne_eq_false_iff_eq]; omega
                        clear qq
                        clear h3 hV hZ m1 m2 m3 K1 K2 K3 hoc loc
                        go_wp2_with fail
                        refine HC3.out.mono ?_
                        rintro e w' ⟨rfl, rfl⟩
                        go_wp2_with fail
                        refine HK1.out.mono ?_
                        rintro e w' ⟨rfl, rfl⟩
                        go_wp2_with fail
                        refine HK2.out.mono ?_
                        rintro e w' ⟨rfl, rfl⟩
                        go_wp2_with fail
                        refine HK3.out.mono ?_
                        rintro e w' ⟨rfl, rfl⟩
                        go_wp2_with fail
                        go_roundw
                        case rel => exact ⟨c + 1, by omega, by go_num, by first | exact trivial | rfl | simp⟩
                        case measure => simp [intOf]; omega
                      · by_cases qq : a = c
                        · have e_bc1 : ((b : Int) != (c : Int)) = true := by rw [bne_iff_ne]; omega
                          have f_bc1 : (b != c) = true := by rw [bne_iff_ne]; omega
                          have e_ac0 : ((a : Int) != (c : Int)) = false := by rw [bne_eq_false_iff_eq]; omega
                          have f_ac0 : (a != c) = false := by rw [bne_eq_false_iff_eq]; omega
                          clear qq
                          clear h3 hV hZ m1 m2 m3 K1 K2 K3 hoc loc
                          go_wp2_with fail
                          refine HC3.out.mono ?_
                          rintro e w' ⟨rfl, rfl⟩
                          go_wp2_with fail
                          refine HK1.out.mono ?_
                          rintro e w' ⟨rfl, rfl⟩
                          go_wp2_with fail
                          refine HK2.out.mono ?_
                          rintro e w' ⟨rfl, rfl⟩
                          go_wp2_with fail
                          refine HK3.out.mono ?_
                          rintro e w' ⟨rfl, rfl⟩
                          go_wp2_with fail
                          go_roundw
                          case rel => exact ⟨c + 1, by omega, by go_num, by first | exact trivial | rfl | simp⟩
                          case measure => simp [intOf]; omega
                        · by_cases qq : V < 0
                          · have e_bc1 : ((b : Int) != (c : Int)) = true := by rw [bne_iff_ne]; omega
                            have f_bc1 : (b != c) = true := by rw [bne_iff_ne]; omega
                            have e_ac1 : ((a : Int) != (c : Int)) = true := by rw [bne_iff_ne]; omega
                            have f_ac1 : (a != c) = true := by rw [bne_iff_ne]; omega
                            have e_V : decide (0 ≤ V) = false := decide_eq_false (by omega)
                            clear qq
                            clear h3 hV hZ m1 m2 m3 K1 K2 K3 hoc loc
                            go_wp2_with fail
                            refine HC3.out.mono ?_
                            rintro e w' ⟨rfl, rfl⟩
                            go_wp2_with fail
                            refine HK1.out.mono ?_
                            rintro e w' ⟨rfl, rfl⟩
                            go_wp2_with fail
                            refine HK2.out.mono ?_
                            rintro e w' ⟨rfl, rfl⟩
                            go_wp2_with fail
                            refine HK3.out.mono ?_
                            rintro e w' ⟨rfl, rfl⟩
                            go_wp2_with fail
                            go_roundw
                            case rel => exact ⟨c + 1, by omega, by go_num, by first | exact trivial | rfl | simp⟩
                            case measure => simp [intOf]; omega
                          · by_cases qq : Z < 0
                            · have e_bc1 : ((b : Int) != (c : Int)) = true := by rw [bne_iff_ne]; omega
                              have f_bc1 : (b != c) = true := by rw [bne_iff_ne]; omega
                              have e_ac1 : ((a : Int) != (c : Int)) = true := by rw [bne_iff_ne]; omega
                              have f_ac1 : (a != c) = true := by rw [bne_iff_ne]; omega
                              have e_V : decide (0 ≤ V) = true := decide_eq_true (by omega)
                              have e_Z : decide (0 ≤ Z) = false := decide_eq_false (by omega)
                              clear qq
                              clear h3 hV hZ m1 m2 m3 K1 K2 K3 hoc loc
                              go_wp2_with fail
                              refine HC3.out.mono ?_
                              rintro e w' ⟨rfl, rfl⟩
                              go_wp2_with fail
                              refine HK1.out.mono ?_
                              rintro e w' ⟨rfl, rfl⟩
                              go_wp2_with fail
                              refine HK2.out.mono ?_
                              rintro e w' ⟨rfl, rfl⟩
                              go_wp2_with fail
                              refine HK3.out.mono ?_
                              rintro e w' ⟨rfl, rfl⟩
                              go_wp2_with fail
                              go_roundw
                              case rel => exact ⟨c + 1, by omega, by go_num, by first | exact trivial | rfl | simp⟩
                              case measure => simp [intOf]; omega
                            · have e_bc1 : ((b : Int) != (c : Int)) = true := by rw [bne_iff_ne]; omega
                              have f_bc1 : (b != c) = true := by rw [bne_iff_ne]; omega
                              have e_ac1 : ((a : Int) != (c : Int)) = true := by rw [bne_iff_ne]; omega
                              have f_ac1 : (a != c) = true := by rw [bne_iff_ne]; omega
                              have e_V : decide (0 ≤ V) = true := decide_eq_true (by omega)
                              have e_Z : decide (0 ≤ Z) = true := decide_eq_true (by omega)
                              have hh := h3 (by omega) (by omega) (by omega)
                              have e_S : decide (0 < X + V + Z) = false := decide_eq_false (by omega)
                              clear hh
                              clear qq
                              clear h3 hV hZ m1 m2 m3 K1 K2 K3 hoc loc
                              go_wp2_with fail
                              refine HC3.out.mono ?_
                              rintro e w' ⟨rfl, rfl⟩
                              go_wp2_with fail
                              refine HK1.out.mono ?_
                              rintro e w' ⟨rfl, rfl⟩
                              go_wp2_with fail
                              refine HK2.out.mono ?_
                              rintro e w' ⟨rfl, rfl⟩
                              go_wp2_with fail
                              refine HK3.out.mono ?_
                              rintro e w' ⟨rfl, rfl⟩
                              go_wp2_with fail
                              go_roundw
                              case rel => exact ⟨c + 1, by omega, by go_num, by first | exact trivial | rfl | simp⟩
                              case measure => simp [intOf]; omega
                    · obtain rfl : c = R.length := by omega
                      go_wp2_with fail
                      go_roundw
                      case rel => exact ⟨b + 1, by omega, by go_num, by first | exact trivial | rfl | simp⟩
                      case measure => simp [intOf]; omega
                · have e_ab1 : ((a : Int) != (b : Int)) = true := by rw [bne_iff_ne]; omega
                  have f_ab1 : (a != b) = true := by rw [bne_iff_ne]; omega
                  have e_X : decide (0 ≤ X) = true := decide_eq_true (by omega)
                  have e_Y : decide (0 ≤ Y) = true := decide_eq_true (by omega)
                  have hh := h2 (by omega) (by omega)
                  have e_XY : decide (0 < X + Y) = false := decide_eq_false (by omega)
                  clear hh
                  clear h2 n_1 n_2 n_3 n_4
                  go_wp2_with fail
                  refine HC1.out.mono ?_
                  rintro e w' ⟨rfl, rfl⟩
                  go_wp2_with fail
                  refine HC2.out.mono ?_
                  rintro e w' ⟨rfl, rfl⟩
                  go_wp2_with fail
                  refine HC3.out.mono ?_
                  rintro e w' ⟨rfl, rfl⟩
                  go_wp2_with fail
                  refine HC4.out.mono ?_
                  rintro e w' ⟨rfl, rfl⟩
                  go_wp2_with fail
                  go_loopw [9] (fun i wr => ∃ c : Nat, c ≤ R.length ∧ i = .int .i64 c ∧ wr = w9) (fun i _ => R.length - (intOf i).toNat)
                  case atStart => exact ⟨0, Nat.zero_le _, rfl, rfl⟩
                  case round =>
                    obtain ⟨c, hc, rfl, rfl⟩ := hrel
                    by_cases hcl : c < R.length
                    · obtain ⟨oc, hoc, loc⟩ := HOUT.out c hcl
                      have xc := O1.cell hcl
                      rw [hoc] at xc
                      have K1 := CRK.out b c _ hbl hcl D
                      have K2 := CRK.out c oc _ hcl loc D
                      have K3 := CRK.out c a _ hcl hal D
                      obtain ⟨m1, m2, m3⟩ : rkN rs b c ≤ 1048576 ∧ rkN rs c oc ≤ 1048576 ∧ rkN rs c a ≤ 1048576 := ⟨HBD.out b c hbl hcl, HBD.out c oc hcl loc, HBD.out c a hcl hal⟩
                      have h3 := H3.out c oc hcl hoc
                      generalize rkN rs b c = s1 at *
                      generalize rkN rs c oc = s2 at *
                      generalize rkN rs c a = s3 at *
                      have y1 : IntKind.i64.wrap ((p3 : Int) - (s1 : Int)) = (p3 : Int) - s1 := by rw [IntKind.wrap_i64]; omega
                      have y2 : IntKind.i64.wrap ((s2 : Int) - (s3 : Int)) = (s2 : Int) - s3 := by rw [IntKind.wrap_i64]; omega
                      obtain ⟨V, hV⟩ : ∃ V, (p3 : Int) - s1 = V := ⟨_, rfl⟩
                      obtain ⟨Z, hZ⟩ : ∃ Z, (s2 : Int) - s3 = Z := ⟨_, rfl⟩
                      replace y1 := y1.trans hV
                      replace y2 := y2.trans hZ
                      have HK1 := Lib.hid K1
                      have HK2 := Lib.hid K2
                      have HK3 := Lib.hid K3
                      have c0_ : (0 : Int) ≤ (c : Int) := by omega
                      have c1_ : (c : Int) < (R.length : Int) := by omega
                      have t1 : IntKind.i64.wrap (X + V) = X + V := by rw [IntKind.wrap_i64]; omega
                      have t2 : IntKind.i64.wrap (X + V + Z) = X + V + Z := by rw [IntKind.wrap_i64]; omega
                      by_cases qq : b = c
                      · have e_bc0 : ((b : Int) != (c : Int)) = false := by rw [bne_eq_false_iff_eq]; omega
                        have f_bc0 : (b != c) = false := by rw [bne_eq_false_iff_eq]; omega
                        clear qq
                        clear h3 hV hZ m1 m2 m3 K1 K2 K3 hoc loc
                        go_wp2_with fail
                        refine HC3.out.mono ?_
                        rintro e w' ⟨rfl, rfl⟩
                        go_wp2_with fail
                        refine HK1.out.mono ?_
                        rintro e w' ⟨rfl, rfl⟩
                        go_wp2_with fail
                        refine HK2.out.mono ?_
                        rintro e w' ⟨rfl, rfl⟩
                        go_wp2_with fail
                        refine HK3.out.mono ?_
                        rintro e w' ⟨rfl, rfl⟩
                        go_wp2_with fail
                        go_roundw
                        case rel => exact ⟨c + 1, by omega, by go_num, by first | exact trivial | rfl | simp⟩
                        case measure => simp [intOf]; omega
                      · by_cases qq : a = c
                        · have e_bc1 : ((b : Int) != (c : Int)) = true := by rw [bne_iff_ne]; omega
                          have f_bc1 : (b != c) = true := by rw [bne_iff_ne]; omega
                          have e_ac0 : ((a : Int) != (c : Int)) = false := by rw [bne_eq_false_iff_eq]; omega
                          have f_ac0 : (a != c) = false := by rw [bne_eq_false_iff_eq]; omega
                          clear qq
                          clear h3 hV hZ m1 m2 m3 K1 K2 K3 hoc loc
                          go_wp2_with fail
                          refine HC3.out.mono ?_
                          rintro e w' ⟨rfl, rfl⟩
                          go_wp2_with fail
                          refine HK1.out.mono ?_
                          rintro e w' ⟨rfl, rfl⟩
                          go_wp2_with fail
                          refine HK2.out.mono ?_
                          rintro e w' ⟨rfl, rfl⟩
                          go_wp2_with fail
                          refine HK3.out.mono ?_
                          rintro e w' ⟨rfl, rfl⟩
                          go_wp2_with fail
                          go_roundw
                          case rel => exact ⟨c + 1, by omega, by go_num, by first | exact trivial | rfl | simp⟩
                          case measure => simp [intOf]; omega
                        · by_cases qq : V < 0
                          · have e_bc1 : ((b : Int) != (c : Int)) = true := by rw [bne_iff_ne]; omega
                            have f_bc1 : (b != c) = true := by rw [bne_iff_ne]; omega
                            have e_ac1 : ((a : Int) != (c : Int)) = true := by rw [bne_iff_ne]; omega
                            have f_ac1 : (a != c) = true := by rw [bne_iff_ne]; omega
                            have e_V : decide (0 ≤ V) = false := decide_eq_false (by omega)
                            clear qq
                            clear h3 hV hZ m1 m2 m3 K1 K2 K3 hoc loc
                            go_wp2_with fail
                            refine HC3.out.mono ?_
                            rintro e w' ⟨rfl, rfl⟩
                            go_wp2_with fail
                            refine HK1.out.mono ?_
                            rintro e w' ⟨rfl, rfl⟩
                            go_wp2_with fail
                            refine HK2.out.mono ?_
                            rintro e w' ⟨rfl, rfl⟩
                            go_wp2_with fail
                            refine HK3.out.mono ?_
                            rintro e w' ⟨rfl, rfl⟩
                            go_wp2_with fail
                            go_roundw
                            case rel => exact ⟨c + 1, by omega, by go_num, by first | exact trivial | rfl | simp⟩
                            case measure => simp [intOf]; omega
                          · by_cases qq : Z < 0
                            · have e_bc1 : ((b : Int) != (c : Int)) = true := by rw [bne_iff_ne]; omega
                              have f_bc1 : (b != c) = true := by rw [bne_iff_ne]; omega
                              have e_ac1 : ((a : Int) != (c : Int)) = true := by rw [bne_iff_ne]; omega
                              have f_ac1 : (a != c) = true := by rw [bne_iff_ne]; omega
                              have e_V : decide (0 ≤ V) = true := decide_eq_true (by omega)
                              have e_Z : decide (0 ≤ Z) = false := decide_eq_false (by omega)
                              clear qq
                              clear h3 hV hZ m1 m2 m3 K1 K2 K3 hoc loc
                              go_wp2_with fail
                              refine HC3.out.mono ?_
                              rintro e w' ⟨rfl, rfl⟩
                              go_wp2_with fail
                              refine HK1.out.mono ?_
                              rintro e w' ⟨rfl, rfl⟩
                              go_wp2_with fail
                              refine HK2.out.mono ?_
                              rintro e w' ⟨rfl, rfl⟩
                              go_wp2_with fail
                              refine HK3.out.mono ?_
                              rintro e w' ⟨rfl, rfl⟩
                              go_wp2_with fail
                              go_roundw
                              case rel => exact ⟨c + 1, by omega, by go_num, by first | exact trivial | rfl | simp⟩
                              case measure => simp [intOf]; omega
                            · have e_bc1 : ((b : Int) != (c : Int)) = true := by rw [bne_iff_ne]; omega
                              have f_bc1 : (b != c) = true := by rw [bne_iff_ne]; omega
                              have e_ac1 : ((a : Int) != (c : Int)) = true := by rw [bne_iff_ne]; omega
                              have f_ac1 : (a != c) = true := by rw [bne_iff_ne]; omega
                              have e_V : decide (0 ≤ V) = true := decide_eq_true (by omega)
                              have e_Z : decide (0 ≤ Z) = true := decide_eq_true (by omega)
                              have hh := h3 (by omega) (by omega) (by omega)
                              have e_S : decide (0 < X + V + Z) = false := decide_eq_false (by omega)
                              clear hh
                              clear qq
                              clear h3 hV hZ m1 m2 m3 K1 K2 K3 hoc loc
                              go_wp2_with fail
                              refine HC3.out.mono ?_
                              rintro e w' ⟨rfl, rfl⟩
                              go_wp2_with fail
                              refine HK1.out.mono ?_
                              rintro e w' ⟨rfl, rfl⟩
                              go_wp2_with fail
                              refine HK2.out.mono ?_
                              rintro e w' ⟨rfl, rfl⟩
                              go_wp2_with fail
                              refine HK3.out.mono ?_
                              rintro e w' ⟨rfl, rfl⟩
                              go_wp2_with fail
                              go_roundw
                              case rel => exact ⟨c + 1, by omega, by go_num, by first | exact trivial | rfl | simp⟩
                              case measure => simp [intOf]; omega
                    · obtain rfl : c = R.length := by omega
                      go_wp2_with fail
                      go_roundw
                      case rel => exact ⟨b + 1, by omega, by go_num, by first | exact trivial | rfl | simp⟩
                      case measure => simp [intOf]; omega
          · obtain rfl : b = R.length := by omega
            go_wp2_with fail
            go_roundw
            case rel => exact ⟨a + 1, by omega, by go_num, by first | exact trivial | rfl | simp⟩
            case measure => simp [intOf]; omega
      · go_wp2_with fail
        go_ret
        exact ⟨rfl, B⟩

set_option maxRecDepth 100000 in
theorem lifted (os : Os) (started : os.Started) (H : Type) (enc : TypeId × Value → H) :
    ReturnsInHanded {} Try.checked os 4 .any (Rows.fnTradeTurnsStableSpec.pre6 enc Try.prog Try.f4 Rows.fnTradeTurnsStableRow.domain false) (Rows.fnTradeTurnsStableSpec.post enc Try.prog Try.f4 false true false false) := by
  refine returnsInHanded_of_change (C := Try.checked) own started (by kernel_rfl) Try.func4
    (ChangeSpec.witness6 (enc := enc) (C := Try.checked) false ⟨#[], #[.slice none 0 0], []⟩ 8 (by kernel_rfl) (by kernel_rfl) (by kernel_rfl) (by kernel_rfl)) ?_
  intro W base args ds gs before hval0 hW hcnd _
  have hval : ∀ (j : Nat) t v, Try.f4.params[j]? = some t → args[j]? = some v → Value.okWide Try.prog W .any base t v := hval0
  have hW' := hW
  obtain ⟨p, q, hA0, hV, rfl, hfz, hnd⟩ := hW
  have hA : DataW.TrodAll enc Try.prog W 0 (fun _ => true) true Try.f4.params.toList args.toList ds p := hA0
  rw [Try.params4] at hA hval
  obtain ⟨v0, vs0, e0, es0, p0, q0, hargs, rfl, rfl, h0, r0⟩ := trodAll_cons hA
  obtain ⟨rfl, rfl, rfl⟩ := trodAll_nil r0
  obtain rfl : args = #[v0] := by cases args; simp_all
  obtain ⟨rfl, rfl⟩ := trodVars_none hV
  have k0 := h0
  have lt0 : ∀ x ∈ p0, x.block < W.heap.size := by obtain ⟨m, hm⟩ := k0; exact DataW.trod_lt m _ _ _ hm
  obtain ⟨a0, len0, cap0, rfl⟩ := okWide_slice Try.underlying22 (hval 0 22 v0 rfl rfl)
  obtain ⟨z0, w0⟩ : ∃ zs, IsRow .u8 W a0 len0 cap0 zs := by
    obtain ⟨fuel, hf⟩ := h0
    rcases open_ints Try.underlying22 Try.underlying5 (by kernel_rfl) hf with ⟨hcs, _⟩ | ⟨x, l, c, zs, hcs, _, hl, hm, hz, _, hcell, hwz⟩
    · simp [Value.cells] at hcs
      obtain ⟨rfl, rfl, rfl⟩ := hcs
      exact ⟨[], .inl ⟨rfl, rfl, rfl, rfl⟩⟩
    · simp [Value.cells] at hcs
      obtain ⟨rfl, rfl, rfl⟩ := hcs
      exact ⟨zs, .inr ⟨_, rfl, hl, hm, by simpa using hz, hcell, hwz⟩⟩
  clear hA0 hval0
  refine (walk a0 len0 cap0 z0 W w0).mono fun e W' ⟨he, bel⟩ => ?_
  subst he
  exact ⟨_, rfl, _, _, _, [], _, [], hW', trodAll_mk1 (shut_bool Try.underlying4 _), (trodAll_cons_mk (Below.trod laidOut (by kernel_rfl) (of_decide_eq_true (by kernel_rfl)) k0 bel lt0) trodAll_mk0), rfl, bel.frame _, fun h => by cases h⟩

theorem over : Rows.fnTradeTurnsStableRow.holds Try.pinned (OpenSpec.ofChange Rows.fnTradeTurnsStableSpec) :=
  OpenClaim.holds_of_wide 4 Try.f4 rfl rfl rfl rfl rfl rfl rfl ⟨rfl, rfl, rfl, rfl, rfl⟩ rfl rfl rfl rfl rfl (by kernel_rfl) Try.func4 (by kernel_rfl)
    (of_decide_eq_true (by kernel_rfl)) (by unfold Func.isWrapper; first | (rw [if_pos (by decide +kernel)]; kernel_rfl) | (rw [if_neg (by decide +kernel)]; exact ⟨rfl, rfl⟩))
    (fun os started H enc _ => lifted os started H enc)

end Go.Proofs.Ytdlbjmhjaljlfab.fnTradeTurnsStable
namespace Go.Proofs.Ytdlbjmhjaljlfab
/-- the statement -/
theorem fnTradeTurnsStable_holds : Rows.FnTradeTurnsStableSaid := fnTradeTurnsStable.over
end Go.Proofs.Ytdlbjmhjaljlfab
