/- For every input the law answers true, and its argument reads afterwards as before: sure flows are sure. No condition. -/
import Derived.Test.YtfcgjiciobfncaaRows
import Derived.Test.YtfcgjiciobfncaaDrawBb
import Derived.Test.YtfcgjiciobfncaaEqI
import Derived.Test.YtfcgjiciobfncaaRunX
import Derived.Test.YtfcgjiciobfncaaBasQ
import Derived.Test.YtfcgjiciobfncaaLawBa
import Derived.WalkKit
import Derived.Deep.RegionHeld3
import Derived.Deep.DeepCutAuto
import Derived.Deep.QuietTactic
import Derived.BigQuiet
import Derived.ProofKit
import Derived.OpenShut
import Derived.ShutString
import Derived.ChangeOld
import Derived.Below
import Derived.Lib.SmallJoins
namespace Go.Proofs.Ytfcgjiciobfncaa.fnSureFlow
open Go.ChangeShapes Go.WideShapes Go.ChangeAt Go.RowKit Go.Joins
open Go.ChangeMaps (open_string shut_string)
set_option linter.unusedVariables false
set_option linter.unusedSimpArgs false

theorem own : ownKnob Try.prog.godebug = none := by kernel_rfl
theorem laidOut : laidOutB Try.prog = true := by kernel_rfl

set_option maxRecDepth 100000 in
set_option maxHeartbeats 8000000 in
theorem walk (a0 : Option Addr) (len0 cap0 : Nat) (z0 : List Int) (w : World) (w0 : IsRow .u8 w a0 len0 cap0 z0) :
    Calls Try.prog 13 #[.slice a0 len0 cap0] w fun e w' => e = .returned (.bool true) ∧ Below w.heap.size w w' := by
  by_cases big : (1048576 : Int) < (len0 : Int)
  · go_enter Try.func13, Try.ntmps13
    go_wp2
    go_ret
    exact ⟨rfl, Below.refl _ _⟩
  go_enter Try.func13, Try.ntmps13
  go_wp2_with fail
  refine (drawSure a0 len0 cap0 z0 _ w0).mono ?_
  rintro e u1 ⟨r, h, b1, c1, cs, rfl, ⟨r0, r1, h0, h1⟩, ⟨lc, hcs, I1, p1⟩, B⟩
  clear w0 big
  have nc : cs.length ≤ 1048576 := by omega
  have CI : Hid (∀ (W : World), IsInts W b1 cs → Calls Try.prog 45 #[.agg #[.int .i64 r, .int .i64 h], .slice b1 cs.length c1] W fun e w' => e = .returned (.int .i64 (sureV r h cs)) ∧ Below W.heap.size W w') := fun W h1 => iSure r h b1 c1 cs W h1 nc
  have CS : Hid (∀ (W : World), IsInts W b1 cs → Calls Try.prog 46 #[.agg #[.int .i64 r, .int .i64 h], .slice b1 cs.length c1] W fun e w' => e = .returned (.int .i64 (sureV r h cs)) ∧ Below W.heap.size W w') := fun W h1 => sSure r h b1 c1 cs W h1 nc
  have SI : Hid (∀ (LL : List Int) (bq : Option Addr) (cq : Nat) (W : World), LL.length = cs.length → runBa r h cs LL = true → IsInts W b1 cs → IsInts W bq LL → Calls Try.prog 33 #[.agg #[.int .i64 r, .int .i64 h], .slice b1 cs.length c1, .slice bq cs.length cq] W fun e w' => e = .returned (.int .i64 (shortB r h (hrs cs LL))) ∧ Below W.heap.size W w') := fun LL bq cq W hl hr h1 h2 => by
    have := iShort r h b1 bq c1 cq cs LL W h1 h2 nc (by rw [hl]; exact nc)
    rw [(short_at hr).1, hl] at this; exact this
  have K := Blk.new u1 24 #[.int .i64 r, .int .i64 h]
  replace B := B.alloc B.size (.cells #[.int .i64 r, .int .i64 h] 24)
  replace I1 := ints_below I1 ((Below.refl _ u1).alloc (Nat.le_refl _) (.cells #[.int .i64 r, .int .i64 h] 24))
  clear hcs
  by_cases hn : sureV r h cs < 0
  · have e0 : decide (sureV r h cs < 0) = true := decide_eq_true hn
    clear SI hn
    generalize sureV r h cs = v at *
    obtain ⟨f0K, f1K, f2K, f3K, f4K⟩ := blk_two K
    go_wp2_with fail
    clear f0K f1K f2K f3K f4K
    refine (CI.out _ I1).mono ?_
    rintro e u2_ ⟨rfl, C⟩
    replace B := bel_tr B C
    replace I1 := ints_below I1 C
    replace K := K.next C
    clear C
    obtain ⟨f0K, f1K, f2K, f3K, f4K⟩ := blk_two K
    go_wp2_with fail
    clear f0K f1K f2K f3K f4K
    refine (CS.out _ I1).mono ?_
    rintro e u3_ ⟨rfl, C⟩
    replace B := bel_tr B C
    replace I1 := ints_below I1 C
    replace K := K.next C
    clear C
    obtain ⟨f0K, f1K, f2K, f3K, f4K⟩ := blk_two K
    go_wp2_with fail
    clear f0K f1K f2K f3K f4K
    refine (CS.out _ I1).mono ?_
    rintro e u4_ ⟨rfl, C⟩
    replace B := bel_tr B C
    replace I1 := ints_below I1 C
    replace K := K.next C
    clear C
    obtain ⟨f0K, f1K, f2K, f3K, f4K⟩ := blk_two K
    go_wp2_with fail
    clear f0K f1K f2K f3K f4K
    go_ret
    exact ⟨rfl, B⟩
  obtain ⟨o, hv, a1, a2, e1, e2, e3⟩ := sure_is hn
  rw [hv] at CI CS
  have e0 : decide (o < 0) = false := decide_eq_false (by omega)
  have wz : IntKind.i64.wrap (o + 1) = o + 1 := by rw [IntKind.wrap_i64]; omega
  obtain ⟨L1, hL1⟩ : ∃ L1, List.replicate cs.length o = L1 := ⟨_, rfl⟩
  have HL1 : Hid (L1.length = cs.length) := by show _ = _; rw [← hL1]; simp
  rw [hL1] at e1 e2
  have HE1 := Lib.hid hL1
  have HF1 := Lib.hid e1
  have HZ1 := Lib.hid e2
  clear hL1 e1 e2 hn hv
  have k0 : (0 : Int) ≤ (cs.length : Int) := by omega
  by_cases hq : o = 500
  · have g0 : (o == 500) = true := by rw [beq_iff_eq]; exact hq
    clear e3 hq
    obtain ⟨f0K, f1K, f2K, f3K, f4K⟩ := blk_two K
    go_wp2_with fail
    clear f0K f1K f2K f3K f4K
    refine (CI.out _ I1).mono ?_
    rintro e u2_ ⟨rfl, C⟩
    replace B := bel_tr B C
    replace I1 := ints_below I1 C
    replace K := K.next C
    clear C
    obtain ⟨f0K, f1K, f2K, f3K, f4K⟩ := blk_two K
    go_wp2_with fail
    clear f0K f1K f2K f3K f4K
    refine (CS.out _ I1).mono ?_
    rintro e u3_ ⟨rfl, C⟩
    replace B := bel_tr B C
    replace I1 := ints_below I1 C
    replace K := K.next C
    clear C
    obtain ⟨f0K, f1K, f2K, f3K, f4K⟩ := blk_two K
    go_wp2_with fail
    clear f0K f1K f2K f3K f4K
    obtain ⟨f0K, f1K, f2K, f3K, f4K⟩ := blk_two K
    have HMK34 := Lib.hid (fun (W : World) (hW : Below u3_.heap.size u3_ W) => (⟨⟨(hW.cell (p := ⟨u1.heap.size, 0, none⟩) (f4K)).trans f0K, (hW.cell (p := ⟨u1.heap.size, 1, none⟩) (f4K)).trans f1K⟩, hW⟩ : (W.cell? ⟨u1.heap.size, 0, none⟩ = some (.int .i64 r) ∧ W.cell? ⟨u1.heap.size, 1, none⟩ = some (.int .i64 h)) ∧ Below u3_.heap.size u3_ W))
    refine wp_region_held_drew (S := (fun w' => (w'.cell? ⟨u1.heap.size, 0, none⟩ = some (.int .i64 r) ∧ w'.cell? ⟨u1.heap.size, 1, none⟩ = some (.int .i64 h)) ∧ Below u3_.heap.size u3_ w')) (by kernel_rfl) ?_ (fun hHeld => ?_)
    · exact ⟨⟨f0K, f1K⟩, (Below.refl _ _).drew⟩
    refine wpAnyH_take (i := 0) (oi := ?ooa35_) (v := ?vva35_) ?hia35_ (by kernel_rfl) ?h3a35_ ?h4a35_ ?h5a35_ ?h6a35_ (by assumption) ?h8a35_
    case hia35_ => (simp only [List.getElem?_toArray, List.getElem?_cons_succ, List.getElem?_cons_zero]; rfl)
    case h3a35_ => kernel_rfl
    case h4a35_ => kernel_rfl
    case h6a35_ => (refine Or.inl ⟨by rfl, ?_⟩; intro w hSw; (try dsimp only at hSw); (go_simp <;> with_reducible rfl))
    case h5a35_ => exact fun _ _ _ h => h
    try simp only [Act.put, List.setIfInBounds_toArray, List.set_cons_zero, List.set_cons_succ]
    refine wpAnyH_take (i := 1) (oi := ?ooa36_) (v := ?vva36_) ?hia36_ (by kernel_rfl) ?h3a36_ ?h4a36_ ?h5a36_ ?h6a36_ (by assumption) ?h8a36_
    case hia36_ => (simp only [List.getElem?_toArray, List.getElem?_cons_succ, List.getElem?_cons_zero]; rfl)
    case h3a36_ => kernel_rfl
    case h4a36_ => kernel_rfl
    case h6a36_ => (refine Or.inl ⟨by rfl, ?_⟩; intro w hSw; (try dsimp only at hSw); (go_simp <;> with_reducible rfl))
    case h5a36_ => exact fun _ _ _ h => h
    try simp only [Act.put, List.setIfInBounds_toArray, List.set_cons_zero, List.set_cons_succ]
    refine wpAnyH_take (i := 2) (oi := ?ooa37_) (v := ?vva37_) ?hia37_ (by kernel_rfl) ?h3a37_ ?h4a37_ ?h5a37_ ?h6a37_ (by assumption) ?h8a37_
    case hia37_ => (simp only [List.getElem?_toArray, List.getElem?_cons_succ, List.getElem?_cons_zero]; rfl)
    case h3a37_ => kernel_rfl
    case h4a37_ => kernel_rfl
    case h6a37_ => (refine Or.inl ⟨by rfl, ?_⟩; intro w hSw; (try dsimp only at hSw); (go_simp <;> with_reducible rfl))
    case h5a37_ => exact fun _ _ _ h => h
    try simp only [Act.put, List.setIfInBounds_toArray, List.set_cons_zero, List.set_cons_succ]
    refine wpAnyH_take (i := 3) (oi := ?ooa38_) (v := ?vva38_) ?hia38_ (by kernel_rfl) ?h3a38_ ?h4a38_ ?h5a38_ ?h6a38_ (by assumption) ?h8a38_
    case hia38_ => (simp only [List.getElem?_toArray, List.getElem?_cons_succ, List.getElem?_cons_zero]; rfl)
    case h3a38_ => kernel_rfl
    case h4a38_ => kernel_rfl
    case h6a38_ => (refine Or.inl ⟨by rfl, ?_⟩; intro w hSw; (try dsimp only at hSw); (go_simp <;> with_reducible rfl))
    case h5a38_ => exact fun _ _ _ h => h
    try simp only [Act.put, List.setIfInBounds_toArray, List.set_cons_zero, List.set_cons_succ]
    refine wpAnyH_ready (rs := [4]) (by kernel_rfl) (by simp) (AllReadyH.cons (o := ?ooa39_q0) ?hia39_q0 (fun K hK => ?hka39_q0) AllReadyH.nil)
    case hia39_q0 => (simp only [List.getElem?_toArray, List.getElem?_cons_succ, List.getElem?_cons_zero]; rfl)
    case hka39_q0 =>
      (rw [if_pos (by rfl)]; go_simp; refine (lsteady o cs.length _ nc).mono ?_; rintro e w4_ ⟨v1, rfl, O1, hb⟩; rw [HE1.out] at O1; obtain ⟨bq1, cq1, rfl, _⟩ := O1.ints; have IQ1 := O1.at_; rw [HL1.out]; clear O1; go_wp2_with fail; refine hK.out _ _ (HMK34.out _ (bel_tr hHeld.2 hb)) (fun hHeld => ?_); clear hK K)
      try simp only [Act.put, List.setIfInBounds_toArray, List.set_cons_zero, List.set_cons_succ]
      refine wpAnyH_ready (rs := [5]) (by kernel_rfl) (by simp) (AllReadyH.cons (o := ?ooa40_q0) ?hia40_q0 (fun K hK => ?hka40_q0) AllReadyH.nil)
      case hia40_q0 => (simp only [List.getElem?_toArray, List.getElem?_cons_succ, List.getElem?_cons_zero]; rfl)
      case hka40_q0 =>
        (rw [if_pos (by rfl)]; go_simp; refine (SI.out L1 bq1 cq1 _ HL1.out HF1.out (ints_below I1 hHeld.2) IQ1).mono ?_; rintro e w5_ ⟨rfl, hb2⟩; rw [HZ1.out]; go_wp2_with fail; refine hK.out _ _ (HMK34.out _ (bel_tr hHeld.2 hb2)) (fun hHeld => ?_); clear hK K)
        try simp only [Act.put, List.setIfInBounds_toArray, List.set_cons_zero, List.set_cons_succ]
        refine wpAnyH_take (i := 6) (oi := ?ooa41_) (v := ?vva41_) ?hia41_ (by kernel_rfl) ?h3a41_ ?h4a41_ ?h5a41_ ?h6a41_ (by assumption) ?h8a41_
        case hia41_ => (simp only [List.getElem?_toArray, List.getElem?_cons_succ, List.getElem?_cons_zero]; rfl)
        case h3a41_ => kernel_rfl
        case h4a41_ => kernel_rfl
        case h6a41_ => (refine Or.inl ⟨by rfl, ?_⟩; intro w hSw; (try dsimp only at hSw); (go_simp <;> with_reducible rfl))
        case h5a41_ => exact fun _ _ _ h => h
        try simp only [Act.put, List.setIfInBounds_toArray, List.set_cons_zero, List.set_cons_succ]
        refine wpAnyH_take (i := 7) (oi := ?ooa42_) (v := ?vva42_) ?hia42_ (by kernel_rfl) ?h3a42_ ?h4a42_ ?h5a42_ ?h6a42_ (by assumption) ?h8a42_
        case hia42_ => (simp only [List.getElem?_toArray, List.getElem?_cons_succ, List.getElem?_cons_zero]; rfl)
        case h3a42_ => kernel_rfl
        case h4a42_ => kernel_rfl
        case h6a42_ => (refine Or.inl ⟨by rfl, ?_⟩; intro w hSw; (try dsimp only at hSw); (go_simp <;> with_reducible rfl))
        case h5a42_ => exact fun _ _ _ h => h
        try simp only [Act.put, List.setIfInBounds_toArray, List.set_cons_zero, List.set_cons_succ]
        refine wpAnyH_take (i := 8) (oi := ?ooa43_) (v := ?vva43_) ?hia43_ (by kernel_rfl) ?h3a43_ ?h4a43_ ?h5a43_ ?h6a43_ (by assumption) ?h8a43_
        case hia43_ => (simp only [List.getElem?_toArray, List.getElem?_cons_succ, List.getElem?_cons_zero]; rfl)
        case h3a43_ => kernel_rfl
        case h4a43_ => kernel_rfl
        case h6a43_ => (refine Or.inl ⟨by rfl, ?_⟩; intro w hSw; (try dsimp only at hSw); (go_simp <;> with_reducible rfl))
        case h5a43_ => exact fun _ _ _ h => h
        try simp only [Act.put, List.setIfInBounds_toArray, List.set_cons_zero, List.set_cons_succ]
        refine wpAnyH_take (i := 9) (oi := ?ooa44_) (v := ?vva44_) ?hia44_ (by kernel_rfl) ?h3a44_ ?h4a44_ ?h5a44_ ?h6a44_ (by assumption) ?h8a44_
        case hia44_ => (simp only [List.getElem?_toArray, List.getElem?_cons_succ, List.getElem?_cons_zero]; rfl)
        case h3a44_ => kernel_rfl
        case h4a44_ => kernel_rfl
        case h6a44_ => (refine Or.inl ⟨by rfl, ?_⟩; intro w hSw; (try dsimp only at hSw); (go_simp <;> with_reducible rfl))
        case h5a44_ => exact fun _ _ _ h => h
        try simp only [Act.put, List.setIfInBounds_toArray, List.set_cons_zero, List.set_cons_succ]
        refine wpAnyH_take (i := 10) (oi := ?ooa45_) (v := ?vva45_) ?hia45_ (by kernel_rfl) ?h3a45_ ?h4a45_ ?h5a45_ ?h6a45_ (by assumption) ?h8a45_
        case hia45_ => (simp only [List.getElem?_toArray, List.getElem?_cons_succ, List.getElem?_cons_zero]; rfl)
        case h3a45_ => kernel_rfl
        case h4a45_ => kernel_rfl
        case h6a45_ => (refine Or.inl ⟨by rfl, ?_⟩; intro w hSw; (try dsimp only at hSw); (go_simp <;> with_reducible rfl))
        case h5a45_ => exact fun _ _ _ h => h
        try simp only [Act.put, List.setIfInBounds_toArray, List.set_cons_zero, List.set_cons_succ]
        refine wpAnyH_take (i := 11) (oi := ?ooa46_) (v := undef) ?hia46_ (by kernel_rfl) ?h3a46_ ?h4a46_ ?h5a46_ ?h6a46_ (by assumption) ?h8a46_
        case hia46_ => (simp only [List.getElem?_toArray, List.getElem?_cons_succ, List.getElem?_cons_zero]; rfl)
        case h3a46_ => kernel_rfl
        case h4a46_ => kernel_rfl
        case h6a46_ => exact Or.inr ⟨by rfl, rfl⟩
        case h5a46_ => exact fun _ _ _ h => h
        try simp only [Act.put, List.setIfInBounds_toArray, List.set_cons_zero, List.set_cons_succ]
        refine wpAnyH_take (i := 12) (oi := ?ooa47_) (v := undef) ?hia47_ (by kernel_rfl) ?h3a47_ ?h4a47_ ?h5a47_ ?h6a47_ (by assumption) ?h8a47_
        case hia47_ => (simp only [List.getElem?_toArray, List.getElem?_cons_succ, List.getElem?_cons_zero]; rfl)
        case h3a47_ => kernel_rfl
        case h4a47_ => kernel_rfl
        case h6a47_ => exact Or.inr ⟨by rfl, rfl⟩
        case h5a47_ => exact fun _ _ _ h => h
        try simp only [Act.put, List.setIfInBounds_toArray, List.set_cons_zero, List.set_cons_succ]
        refine wpAnyH_take (i := 13) (oi := ?ooa48_) (v := undef) ?hia48_ (by kernel_rfl) ?h3a48_ ?h4a48_ ?h5a48_ ?h6a48_ (by assumption) ?h8a48_
        case hia48_ => (simp only [List.getElem?_toArray, List.getElem?_cons_succ, List.getElem?_cons_zero]; rfl)
        case h3a48_ => kernel_rfl
        case h4a48_ => kernel_rfl
        case h6a48_ => exact Or.inr ⟨by rfl, rfl⟩
        case h5a48_ => exact fun _ _ _ h => h
        try simp only [Act.put, List.setIfInBounds_toArray, List.set_cons_zero, List.set_cons_succ]
        refine wpAnyH_take (i := 14) (oi := ?ooa49_) (v := undef) ?hia49_ (by kernel_rfl) ?h3a49_ ?h4a49_ ?h5a49_ ?h6a49_ (by assumption) ?h8a49_
        case hia49_ => (simp only [List.getElem?_toArray, List.getElem?_cons_succ, List.getElem?_cons_zero]; rfl)
        case h3a49_ => kernel_rfl
        case h4a49_ => kernel_rfl
        case h6a49_ => exact Or.inr ⟨by rfl, rfl⟩
        case h5a49_ => exact fun _ _ _ h => h
        try simp only [Act.put, List.setIfInBounds_toArray, List.set_cons_zero, List.set_cons_succ]
        refine wpAnyH_take (i := 15) (oi := ?ooa50_) (v := undef) ?hia50_ (by kernel_rfl) ?h3a50_ ?h4a50_ ?h5a50_ ?h6a50_ (by assumption) ?h8a50_
        case hia50_ => (simp only [List.getElem?_toArray, List.getElem?_cons_succ, List.getElem?_cons_zero]; rfl)
        case h3a50_ => kernel_rfl
        case h4a50_ => kernel_rfl
        case h6a50_ => exact Or.inr ⟨by rfl, rfl⟩
        case h5a50_ => exact fun _ _ _ h => h
        try simp only [Act.put, List.setIfInBounds_toArray, List.set_cons_zero, List.set_cons_succ]
        refine wpAnyH_take (i := 16) (oi := ?ooa51_) (v := undef) ?hia51_ (by kernel_rfl) ?h3a51_ ?h4a51_ ?h5a51_ ?h6a51_ (by assumption) ?h8a51_
        case hia51_ => (simp only [List.getElem?_toArray, List.getElem?_cons_succ, List.getElem?_cons_zero]; rfl)
        case h3a51_ => kernel_rfl
        case h4a51_ => kernel_rfl
        case h6a51_ => exact Or.inr ⟨by rfl, rfl⟩
        case h5a51_ => exact fun _ _ _ h => h
        try simp only [Act.put, List.setIfInBounds_toArray, List.set_cons_zero, List.set_cons_succ]
        refine wpAnyH_take (i := 17) (oi := ?ooa52_) (v := undef) ?hia52_ (by kernel_rfl) ?h3a52_ ?h4a52_ ?h5a52_ ?h6a52_ (by assumption) ?h8a52_
        case hia52_ => (simp only [List.getElem?_toArray, List.getElem?_cons_succ, List.getElem?_cons_zero]; rfl)
        case h3a52_ => kernel_rfl
        case h4a52_ => kernel_rfl
        case h6a52_ => exact Or.inr ⟨by rfl, rfl⟩
        case h5a52_ => exact fun _ _ _ h => h
        try simp only [Act.put, List.setIfInBounds_toArray, List.set_cons_zero, List.set_cons_succ]
        refine wpAnyH_take (i := 18) (oi := ?ooa53_) (v := undef) ?hia53_ (by kernel_rfl) ?h3a53_ ?h4a53_ ?h5a53_ ?h6a53_ (by assumption) ?h8a53_
        case hia53_ => (simp only [List.getElem?_toArray, List.getElem?_cons_succ, List.getElem?_cons_zero]; rfl)
        case h3a53_ => kernel_rfl
        case h4a53_ => kernel_rfl
        case h6a53_ => exact Or.inr ⟨by rfl, rfl⟩
        case h5a53_ => exact fun _ _ _ h => h
        try simp only [Act.put, List.setIfInBounds_toArray, List.set_cons_zero, List.set_cons_succ]
        refine wpAnyH_take (i := 19) (oi := ?ooa54_) (v := ?vva54_) ?hia54_ (by kernel_rfl) ?h3a54_ ?h4a54_ ?h5a54_ ?h6a54_ (by assumption) ?h8a54_
        case hia54_ => (simp only [List.getElem?_toArray, List.getElem?_cons_succ, List.getElem?_cons_zero]; rfl)
        case h3a54_ => kernel_rfl
        case h4a54_ => kernel_rfl
        case h6a54_ => (refine Or.inl ⟨by rfl, ?_⟩; intro w hSw; (try dsimp only at hSw); (go_simp <;> with_reducible rfl))
        case h5a54_ => exact fun _ _ _ h => h
        try simp only [Act.put, List.setIfInBounds_toArray, List.set_cons_zero, List.set_cons_succ]
        refine wpAnyH_take (i := 20) (oi := ?ooa55_) (v := ?vva55_) ?hia55_ (by kernel_rfl) ?h3a55_ ?h4a55_ ?h5a55_ ?h6a55_ (by assumption) ?h8a55_
        case hia55_ => (simp only [List.getElem?_toArray, List.getElem?_cons_succ, List.getElem?_cons_zero]; rfl)
        case h3a55_ => kernel_rfl
        case h4a55_ => kernel_rfl
        case h6a55_ => (refine Or.inl ⟨by rfl, ?_⟩; intro w hSw; (try dsimp only at hSw); (go_simp <;> with_reducible rfl))
        case h5a55_ => exact fun _ _ _ h => h
        try simp only [Act.put, List.setIfInBounds_toArray, List.set_cons_zero, List.set_cons_succ]
        refine wpAnyH_take (i := 21) (oi := ?ooa56_) (v := ?vva56_) ?hia56_ (by kernel_rfl) ?h3a56_ ?h4a56_ ?h5a56_ ?h6a56_ (by assumption) ?h8a56_
        case hia56_ => (simp only [List.getElem?_toArray, List.getElem?_cons_succ, List.getElem?_cons_zero]; rfl)
        case h3a56_ => kernel_rfl
        case h4a56_ => kernel_rfl
        case h6a56_ => (refine Or.inl ⟨by rfl, ?_⟩; intro w hSw; (try dsimp only at hSw); (go_simp <;> with_reducible rfl))
        case h5a56_ => exact fun _ _ _ h => h
        try simp only [Act.put, List.setIfInBounds_toArray, List.set_cons_zero, List.set_cons_succ]
        refine wpAnyH_done (by kernel_rfl) ?_ _
        clear HMK34
        have C := hHeld.2
        replace B := bel_tr B C
        clear hHeld
        go_wp2_with fail
        go_ret
        exact ⟨rfl, B⟩
  · have g0 : (o == 500) = false := by rw [beq_eq_false_iff_ne]; exact hq
    obtain ⟨e4, e5⟩ := e3.resolve_left hq
    obtain ⟨L2, hL2⟩ : ∃ L2, List.replicate cs.length (o + 1) = L2 := ⟨_, rfl⟩
    have HL2 : Hid (L2.length = cs.length) := by show _ = _; rw [← hL2]; simp
    rw [hL2] at e4 e5
    have HE2 := Lib.hid hL2
    have HF2 := Lib.hid e4
    obtain ⟨t, ht⟩ : ∃ t, shortB r h (hrs cs L2) = t := ⟨_, rfl⟩
    have HZ2 := Lib.hid ht
    rw [ht] at e5
    have g1 : decide (0 < t) = true := decide_eq_true e5
    clear hL2 e4 e3 hq ht
    obtain ⟨f0K, f1K, f2K, f3K, f4K⟩ := blk_two K
    go_wp2_with fail
    clear f0K f1K f2K f3K f4K
    refine (CI.out _ I1).mono ?_
    rintro e u2_ ⟨rfl, C⟩
    replace B := bel_tr B C
    replace I1 := ints_below I1 C
    replace K := K.next C
    clear C
    obtain ⟨f0K, f1K, f2K, f3K, f4K⟩ := blk_two K
    go_wp2_with fail
    clear f0K f1K f2K f3K f4K
    refine (CS.out _ I1).mono ?_
    rintro e u3_ ⟨rfl, C⟩
    replace B := bel_tr B C
    replace I1 := ints_below I1 C
    replace K := K.next C
    clear C
    obtain ⟨f0K, f1K, f2K, f3K, f4K⟩ := blk_two K
    go_wp2_with fail
    clear f0K f1K f2K f3K f4K
    obtain ⟨f0K, f1K, f2K, f3K, f4K⟩ := blk_two K
    have HMK57 := Lib.hid (fun (W : World) (hW : Below u3_.heap.size u3_ W) => (⟨⟨(hW.cell (p := ⟨u1.heap.size, 0, none⟩) (f4K)).trans f0K, (hW.cell (p := ⟨u1.heap.size, 1, none⟩) (f4K)).trans f1K⟩, hW⟩ : (W.cell? ⟨u1.heap.size, 0, none⟩ = some (.int .i64 r) ∧ W.cell? ⟨u1.heap.size, 1, none⟩ = some (.int .i64 h)) ∧ Below u3_.heap.size u3_ W))
    refine wp_region_held_drew (S := (fun w' => (w'.cell? ⟨u1.heap.size, 0, none⟩ = some (.int .i64 r) ∧ w'.cell? ⟨u1.heap.size, 1, none⟩ = some (.int .i64 h)) ∧ Below u3_.heap.size u3_ w')) (by kernel_rfl) ?_ (fun hHeld => ?_)
    · exact ⟨⟨f0K, f1K⟩, (Below.refl _ _).drew⟩
    refine wpAnyH_take (i := 0) (oi := ?ooa58_) (v := ?vva58_) ?hia58_ (by kernel_rfl) ?h3a58_ ?h4a58_ ?h5a58_ ?h6a58_ (by assumption) ?h8a58_
    case hia58_ => (simp only [List.getElem?_toArray, List.getElem?_cons_succ, List.getElem?_cons_zero]; rfl)
    case h3a58_ => kernel_rfl
    case h4a58_ => kernel_rfl
    case h6a58_ => (refine Or.inl ⟨by rfl, ?_⟩; intro w hSw; (try dsimp only at hSw); (go_simp <;> with_reducible rfl))
    case h5a58_ => exact fun _ _ _ h => h
    try simp only [Act.put, List.setIfInBounds_toArray, List.set_cons_zero, List.set_cons_succ]
    refine wpAnyH_take (i := 1) (oi := ?ooa59_) (v := ?vva59_) ?hia59_ (by kernel_rfl) ?h3a59_ ?h4a59_ ?h5a59_ ?h6a59_ (by assumption) ?h8a59_
    case hia59_ => (simp only [List.getElem?_toArray, List.getElem?_cons_succ, List.getElem?_cons_zero]; rfl)
    case h3a59_ => kernel_rfl
    case h4a59_ => kernel_rfl
    case h6a59_ => (refine Or.inl ⟨by rfl, ?_⟩; intro w hSw; (try dsimp only at hSw); (go_simp <;> with_reducible rfl))
    case h5a59_ => exact fun _ _ _ h => h
    try simp only [Act.put, List.setIfInBounds_toArray, List.set_cons_zero, List.set_cons_succ]
    refine wpAnyH_take (i := 2) (oi := ?ooa60_) (v := ?vva60_) ?hia60_ (by kernel_rfl) ?h3a60_ ?h4a60_ ?h5a60_ ?h6a60_ (by assumption) ?h8a60_
    case hia60_ => (simp only [List.getElem?_toArray, List.getElem?_cons_succ, List.getElem?_cons_zero]; rfl)
    case h3a60_ => kernel_rfl
    case h4a60_ => kernel_rfl
    case h6a60_ => (refine Or.inl ⟨by rfl, ?_⟩; intro w hSw; (try dsimp only at hSw); (go_simp <;> with_reducible rfl))
    case h5a60_ => exact fun _ _ _ h => h
    try simp only [Act.put, List.setIfInBounds_toArray, List.set_cons_zero, List.set_cons_succ]
    refine wpAnyH_take (i := 3) (oi := ?ooa61_) (v := ?vva61_) ?hia61_ (by kernel_rfl) ?h3a61_ ?h4a61_ ?h5a61_ ?h6a61_ (by assumption) ?h8a61_
    case hia61_ => (simp only [List.getElem?_toArray, List.getElem?_cons_succ, List.getElem?_cons_zero]; rfl)
    case h3a61_ => kernel_rfl
    case h4a61_ => kernel_rfl
    case h6a61_ => (refine Or.inl ⟨by rfl, ?_⟩; intro w hSw; (try dsimp only at hSw); (go_simp <;> with_reducible rfl))
    case h5a61_ => exact fun _ _ _ h => h
    try simp only [Act.put, List.setIfInBounds_toArray, List.set_cons_zero, List.set_cons_succ]
    refine wpAnyH_ready (rs := [4]) (by kernel_rfl) (by simp) (AllReadyH.cons (o := ?ooa62_q0) ?hia62_q0 (fun K hK => ?hka62_q0) AllReadyH.nil)
    case hia62_q0 => (simp only [List.getElem?_toArray, List.getElem?_cons_succ, List.getElem?_cons_zero]; rfl)
    case hka62_q0 =>
      (rw [if_pos (by rfl)]; go_simp; refine (lsteady o cs.length _ nc).mono ?_; rintro e w4_ ⟨v1, rfl, O1, hb⟩; rw [HE1.out] at O1; obtain ⟨bq1, cq1, rfl, _⟩ := O1.ints; have IQ1 := O1.at_; rw [HL1.out]; clear O1; go_wp2_with fail; refine hK.out _ _ (HMK57.out _ (bel_tr hHeld.2 hb)) (fun hHeld => ?_); clear hK K)
      try simp only [Act.put, List.setIfInBounds_toArray, List.set_cons_zero, List.set_cons_succ]
      refine wpAnyH_ready (rs := [5]) (by kernel_rfl) (by simp) (AllReadyH.cons (o := ?ooa63_q0) ?hia63_q0 (fun K hK => ?hka63_q0) AllReadyH.nil)
      case hia63_q0 => (simp only [List.getElem?_toArray, List.getElem?_cons_succ, List.getElem?_cons_zero]; rfl)
      case hka63_q0 =>
        (rw [if_pos (by rfl)]; go_simp; refine (SI.out L1 bq1 cq1 _ HL1.out HF1.out (ints_below I1 hHeld.2) IQ1).mono ?_; rintro e w5_ ⟨rfl, hb2⟩; rw [HZ1.out]; go_wp2_with fail; refine hK.out _ _ (HMK57.out _ (bel_tr hHeld.2 hb2)) (fun hHeld => ?_); clear hK K)
        try simp only [Act.put, List.setIfInBounds_toArray, List.set_cons_zero, List.set_cons_succ]
        refine wpAnyH_take (i := 6) (oi := ?ooa64_) (v := ?vva64_) ?hia64_ (by kernel_rfl) ?h3a64_ ?h4a64_ ?h5a64_ ?h6a64_ (by assumption) ?h8a64_
        case hia64_ => (simp only [List.getElem?_toArray, List.getElem?_cons_succ, List.getElem?_cons_zero]; rfl)
        case h3a64_ => kernel_rfl
        case h4a64_ => kernel_rfl
        case h6a64_ => (refine Or.inl ⟨by rfl, ?_⟩; intro w hSw; (try dsimp only at hSw); (go_simp <;> with_reducible rfl))
        case h5a64_ => exact fun _ _ _ h => h
        try simp only [Act.put, List.setIfInBounds_toArray, List.set_cons_zero, List.set_cons_succ]
        refine wpAnyH_take (i := 7) (oi := ?ooa65_) (v := ?vva65_) ?hia65_ (by kernel_rfl) ?h3a65_ ?h4a65_ ?h5a65_ ?h6a65_ (by assumption) ?h8a65_
        case hia65_ => (simp only [List.getElem?_toArray, List.getElem?_cons_succ, List.getElem?_cons_zero]; rfl)
        case h3a65_ => kernel_rfl
        case h4a65_ => kernel_rfl
        case h6a65_ => (refine Or.inl ⟨by rfl, ?_⟩; intro w hSw; (try dsimp only at hSw); (go_simp <;> with_reducible rfl))
        case h5a65_ => exact fun _ _ _ h => h
        try simp only [Act.put, List.setIfInBounds_toArray, List.set_cons_zero, List.set_cons_succ]
        refine wpAnyH_take (i := 8) (oi := ?ooa66_) (v := ?vva66_) ?hia66_ (by kernel_rfl) ?h3a66_ ?h4a66_ ?h5a66_ ?h6a66_ (by assumption) ?h8a66_
        case hia66_ => (simp only [List.getElem?_toArray, List.getElem?_cons_succ, List.getElem?_cons_zero]; rfl)
        case h3a66_ => kernel_rfl
        case h4a66_ => kernel_rfl
        case h6a66_ => (refine Or.inl ⟨by rfl, ?_⟩; intro w hSw; (try dsimp only at hSw); (go_simp <;> with_reducible rfl))
        case h5a66_ => exact fun _ _ _ h => h
        try simp only [Act.put, List.setIfInBounds_toArray, List.set_cons_zero, List.set_cons_succ]
        refine wpAnyH_take (i := 9) (oi := ?ooa67_) (v := ?vva67_) ?hia67_ (by kernel_rfl) ?h3a67_ ?h4a67_ ?h5a67_ ?h6a67_ (by assumption) ?h8a67_
        case hia67_ => (simp only [List.getElem?_toArray, List.getElem?_cons_succ, List.getElem?_cons_zero]; rfl)
        case h3a67_ => kernel_rfl
        case h4a67_ => kernel_rfl
        case h6a67_ => (refine Or.inl ⟨by rfl, ?_⟩; intro w hSw; (try dsimp only at hSw); (go_simp <;> with_reducible rfl))
        case h5a67_ => exact fun _ _ _ h => h
        try simp only [Act.put, List.setIfInBounds_toArray, List.set_cons_zero, List.set_cons_succ]
        refine wpAnyH_take (i := 10) (oi := ?ooa68_) (v := ?vva68_) ?hia68_ (by kernel_rfl) ?h3a68_ ?h4a68_ ?h5a68_ ?h6a68_ (by assumption) ?h8a68_
        case hia68_ => (simp only [List.getElem?_toArray, List.getElem?_cons_succ, List.getElem?_cons_zero]; rfl)
        case h3a68_ => kernel_rfl
        case h4a68_ => kernel_rfl
        case h6a68_ => (refine Or.inl ⟨by rfl, ?_⟩; intro w hSw; (try dsimp only at hSw); (go_simp <;> with_reducible rfl))
        case h5a68_ => exact fun _ _ _ h => h
        try simp only [Act.put, List.setIfInBounds_toArray, List.set_cons_zero, List.set_cons_succ]
        refine wpAnyH_take (i := 11) (oi := ?ooa69_) (v := ?vva69_) ?hia69_ (by kernel_rfl) ?h3a69_ ?h4a69_ ?h5a69_ ?h6a69_ (by assumption) ?h8a69_
        case hia69_ => (simp only [List.getElem?_toArray, List.getElem?_cons_succ, List.getElem?_cons_zero]; rfl)
        case h3a69_ => kernel_rfl
        case h4a69_ => kernel_rfl
        case h6a69_ => (refine Or.inl ⟨by rfl, ?_⟩; intro w hSw; (try dsimp only at hSw); (go_simp <;> with_reducible rfl))
        case h5a69_ => exact fun _ _ _ h => h
        try simp only [Act.put, List.setIfInBounds_toArray, List.set_cons_zero, List.set_cons_succ]
        refine wpAnyH_take (i := 12) (oi := ?ooa70_) (v := ?vva70_) ?hia70_ (by kernel_rfl) ?h3a70_ ?h4a70_ ?h5a70_ ?h6a70_ (by assumption) ?h8a70_
        case hia70_ => (simp only [List.getElem?_toArray, List.getElem?_cons_succ, List.getElem?_cons_zero]; rfl)
        case h3a70_ => kernel_rfl
        case h4a70_ => kernel_rfl
        case h6a70_ => (refine Or.inl ⟨by rfl, ?_⟩; intro w hSw; (try dsimp only at hSw); (go_simp <;> with_reducible rfl))
        case h5a70_ => exact fun _ _ _ h => h
        try simp only [Act.put, List.setIfInBounds_toArray, List.set_cons_zero, List.set_cons_succ]
        refine wpAnyH_take (i := 13) (oi := ?ooa71_) (v := ?vva71_) ?hia71_ (by kernel_rfl) ?h3a71_ ?h4a71_ ?h5a71_ ?h6a71_ (by assumption) ?h8a71_
        case hia71_ => (simp only [List.getElem?_toArray, List.getElem?_cons_succ, List.getElem?_cons_zero]; rfl)
        case h3a71_ => kernel_rfl
        case h4a71_ => kernel_rfl
        case h6a71_ => (refine Or.inl ⟨by rfl, ?_⟩; intro w hSw; (try dsimp only at hSw); (go_simp <;> with_reducible rfl))
        case h5a71_ => exact fun _ _ _ h => h
        try simp only [Act.put, List.setIfInBounds_toArray, List.set_cons_zero, List.set_cons_succ]
        refine wpAnyH_take (i := 14) (oi := ?ooa72_) (v := ?vva72_) ?hia72_ (by kernel_rfl) ?h3a72_ ?h4a72_ ?h5a72_ ?h6a72_ (by assumption) ?h8a72_
        case hia72_ => (simp only [List.getElem?_toArray, List.getElem?_cons_succ, List.getElem?_cons_zero]; rfl)
        case h3a72_ => kernel_rfl
        case h4a72_ => kernel_rfl
        case h6a72_ => (refine Or.inl ⟨by rfl, ?_⟩; intro w hSw; (try dsimp only at hSw); (go_simp <;> with_reducible rfl))
        case h5a72_ => exact fun _ _ _ h => h
        try simp only [Act.put, List.setIfInBounds_toArray, List.set_cons_zero, List.set_cons_succ]
        refine wpAnyH_take (i := 15) (oi := ?ooa73_) (v := ?vva73_) ?hia73_ (by kernel_rfl) ?h3a73_ ?h4a73_ ?h5a73_ ?h6a73_ (by assumption) ?h8a73_
        case hia73_ => (simp only [List.getElem?_toArray, List.getElem?_cons_succ, List.getElem?_cons_zero]; rfl)
        case h3a73_ => kernel_rfl
        case h4a73_ => kernel_rfl
        case h6a73_ => (refine Or.inl ⟨by rfl, ?_⟩; intro w hSw; (try dsimp only at hSw); (go_simp <;> with_reducible rfl))
        case h5a73_ => exact fun _ _ _ h => h
        try simp only [Act.put, List.setIfInBounds_toArray, List.set_cons_zero, List.set_cons_succ]
        refine wpAnyH_ready (rs := [16]) (by kernel_rfl) (by simp) (AllReadyH.cons (o := ?ooa74_q0) ?hia74_q0 (fun K hK => ?hka74_q0) AllReadyH.nil)
        case hia74_q0 => (simp only [List.getElem?_toArray, List.getElem?_cons_succ, List.getElem?_cons_zero]; rfl)
        case hka74_q0 =>
          (rw [if_pos (by rfl)]; go_simp; refine (lsteady (o + 1) cs.length _ nc).mono ?_; rintro e w16_ ⟨v2, rfl, O2, hb⟩; rw [HE2.out] at O2; obtain ⟨bq2, cq2, rfl, _⟩ := O2.ints; have IQ2 := O2.at_; rw [HL2.out]; clear O2; go_wp2_with fail; refine hK.out _ _ (HMK57.out _ (bel_tr hHeld.2 hb)) (fun hHeld => ?_); clear hK K)
          try simp only [Act.put, List.setIfInBounds_toArray, List.set_cons_zero, List.set_cons_succ]
          refine wpAnyH_ready (rs := [17]) (by kernel_rfl) (by simp) (AllReadyH.cons (o := ?ooa75_q0) ?hia75_q0 (fun K hK => ?hka75_q0) AllReadyH.nil)
          case hia75_q0 => (simp only [List.getElem?_toArray, List.getElem?_cons_succ, List.getElem?_cons_zero]; rfl)
          case hka75_q0 =>
            (rw [if_pos (by rfl)]; go_simp; refine (SI.out L2 bq2 cq2 _ HL2.out HF2.out (ints_below I1 hHeld.2) IQ2).mono ?_; rintro e w17_ ⟨rfl, hb2⟩; rw [HZ2.out]; go_wp2_with fail; refine hK.out _ _ (HMK57.out _ (bel_tr hHeld.2 hb2)) (fun hHeld => ?_); clear hK K)
            try simp only [Act.put, List.setIfInBounds_toArray, List.set_cons_zero, List.set_cons_succ]
            refine wpAnyH_take (i := 18) (oi := ?ooa76_) (v := ?vva76_) ?hia76_ (by kernel_rfl) ?h3a76_ ?h4a76_ ?h5a76_ ?h6a76_ (by assumption) ?h8a76_
            case hia76_ => (simp only [List.getElem?_toArray, List.getElem?_cons_succ, List.getElem?_cons_zero]; rfl)
            case h3a76_ => kernel_rfl
            case h4a76_ => kernel_rfl
            case h6a76_ => (refine Or.inl ⟨by rfl, ?_⟩; intro w hSw; (try dsimp only at hSw); (go_simp <;> with_reducible rfl))
            case h5a76_ => exact fun _ _ _ h => h
            try simp only [Act.put, List.setIfInBounds_toArray, List.set_cons_zero, List.set_cons_succ]
            refine wpAnyH_take (i := 19) (oi := ?ooa77_) (v := ?vva77_) ?hia77_ (by kernel_rfl) ?h3a77_ ?h4a77_ ?h5a77_ ?h6a77_ (by assumption) ?h8a77_
            case hia77_ => (simp only [List.getElem?_toArray, List.getElem?_cons_succ, List.getElem?_cons_zero]; rfl)
            case h3a77_ => kernel_rfl
            case h4a77_ => kernel_rfl
            case h6a77_ => (refine Or.inl ⟨by rfl, ?_⟩; intro w hSw; (try dsimp only at hSw); (go_simp <;> with_reducible rfl))
            case h5a77_ => exact fun _ _ _ h => h
            try simp only [Act.put, List.setIfInBounds_toArray, List.set_cons_zero, List.set_cons_succ]
            refine wpAnyH_take (i := 20) (oi := ?ooa78_) (v := ?vva78_) ?hia78_ (by kernel_rfl) ?h3a78_ ?h4a78_ ?h5a78_ ?h6a78_ (by assumption) ?h8a78_
            case hia78_ => (simp only [List.getElem?_toArray, List.getElem?_cons_succ, List.getElem?_cons_zero]; rfl)
            case h3a78_ => kernel_rfl
            case h4a78_ => kernel_rfl
            case h6a78_ => (refine Or.inl ⟨by rfl, ?_⟩; intro w hSw; (try dsimp only at hSw); (go_simp <;> with_reducible rfl))
            case h5a78_ => exact fun _ _ _ h => h
            try simp only [Act.put, List.setIfInBounds_toArray, List.set_cons_zero, List.set_cons_succ]
            refine wpAnyH_take (i := 21) (oi := ?ooa79_) (v := ?vva79_) ?hia79_ (by kernel_rfl) ?h3a79_ ?h4a79_ ?h5a79_ ?h6a79_ (by assumption) ?h8a79_
            case hia79_ => (simp only [List.getElem?_toArray, List.getElem?_cons_succ, List.getElem?_cons_zero]; rfl)
            case h3a79_ => kernel_rfl
            case h4a79_ => kernel_rfl
            case h6a79_ => (refine Or.inl ⟨by rfl, ?_⟩; intro w hSw; (try dsimp only at hSw); (go_simp <;> with_reducible rfl))
            case h5a79_ => exact fun _ _ _ h => h
            try simp only [Act.put, List.setIfInBounds_toArray, List.set_cons_zero, List.set_cons_succ]
            refine wpAnyH_done (by kernel_rfl) ?_ _
            clear HMK57
            have C := hHeld.2
            replace B := bel_tr B C
            clear hHeld
            go_wp2_with fail
            go_ret
            exact ⟨rfl, B⟩

set_option maxRecDepth 100000 in
theorem lifted (os : Os) (started : os.Started) (H : Type) (enc : TypeId × Value → H) :
    ReturnsInHanded {} Try.checked os 13 .any (Rows.fnSureFlowSpec.pre6 enc Try.prog Try.f13 Rows.fnSureFlowRow.domain false) (Rows.fnSureFlowSpec.post enc Try.prog Try.f13 false true false false) := by
  refine returnsInHanded_of_change (C := Try.checked) own started (by kernel_rfl) Try.func13
    (ChangeSpec.witness6 (enc := enc) (C := Try.checked) false ⟨#[], #[.slice none 0 0], []⟩ 8 (by kernel_rfl) (by kernel_rfl) (by kernel_rfl) (by kernel_rfl)) ?_
  intro W base args ds gs before hval0 hW hcnd _
  have hval : ∀ (j : Nat) t v, Try.f13.params[j]? = some t → args[j]? = some v → Value.okWide Try.prog W .any base t v := hval0
  have hW' := hW
  obtain ⟨p, q, hA0, hV, rfl, hfz, hnd⟩ := hW
  have hA : DataW.TrodAll enc Try.prog W 0 (fun _ => true) true Try.f13.params.toList args.toList ds p := hA0
  rw [Try.params13] at hA hval
  obtain ⟨v0, vs0, e0, es0, p0, q0, hargs, rfl, rfl, h0, r0⟩ := trodAll_cons hA
  obtain ⟨rfl, rfl, rfl⟩ := trodAll_nil r0
  obtain rfl : args = #[v0] := by cases args; simp_all
  obtain ⟨rfl, rfl⟩ := trodVars_none hV
  have k0 := h0
  have lt0 : ∀ x ∈ p0, x.block < W.heap.size := by obtain ⟨m, hm⟩ := k0; exact DataW.trod_lt m _ _ _ hm
  obtain ⟨a0, len0, cap0, rfl⟩ := okWide_slice Try.underlying22 (hval 0 22 v0 rfl rfl)
  obtain ⟨z0, w0⟩ : ∃ zs, IsRow .u8 W a0 len0 cap0 zs := by
    obtain ⟨fuel, hf⟩ := h0
    rcases open_ints Try.underlying22 Try.underlying5 (by kernel_rfl) hf with ⟨hcs, _⟩ | ⟨x, l, c, zs, hcs, _, hl, hm, hz, _, hcell, hwz⟩
    · simp [Value.cells] at hcs
      obtain ⟨rfl, rfl, rfl⟩ := hcs
      exact ⟨[], .inl ⟨rfl, rfl, rfl, rfl⟩⟩
    · simp [Value.cells] at hcs
      obtain ⟨rfl, rfl, rfl⟩ := hcs
      exact ⟨zs, .inr ⟨_, rfl, hl, hm, by simpa using hz, hcell, hwz⟩⟩
  clear hA0 hval0
  refine (walk a0 len0 cap0 z0 W w0).mono fun e W' ⟨he, bel⟩ => ?_
  subst he
  exact ⟨_, rfl, _, _, _, [], _, [], hW', trodAll_mk1 (shut_bool Try.underlying4 _), (trodAll_cons_mk (Below.trod laidOut (by kernel_rfl) (of_decide_eq_true (by kernel_rfl)) k0 bel lt0) trodAll_mk0), rfl, bel.frame _, fun h => by cases h⟩

theorem over : Rows.fnSureFlowRow.holds Try.pinned (OpenSpec.ofChange Rows.fnSureFlowSpec) :=
  OpenClaim.holds_of_wide 13 Try.f13 rfl rfl rfl rfl rfl rfl rfl ⟨rfl, rfl, rfl, rfl, rfl⟩ rfl rfl rfl rfl rfl (by kernel_rfl) Try.func13 (by kernel_rfl)
    (of_decide_eq_true (by kernel_rfl)) (by unfold Func.isWrapper; first | (rw [if_pos (by decide +kernel)]; kernel_rfl) | (rw [if_neg (by decide +kernel)]; exact ⟨rfl, rfl⟩))
    (fun os started H enc _ => lifted os started H enc)

end Go.Proofs.Ytfcgjiciobfncaa.fnSureFlow
namespace Go.Proofs.Ytfcgjiciobfncaa
/-- the statement -/
theorem fnSureFlow_holds : Rows.FnSureFlowSaid := fnSureFlow.over
end Go.Proofs.Ytfcgjiciobfncaa
