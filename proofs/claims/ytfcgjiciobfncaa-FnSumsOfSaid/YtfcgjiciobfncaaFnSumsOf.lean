/- For every input the law answers true, and its argument reads afterwards as before: sums rise by flows. No condition. -/
import Derived.Test.YtfcgjiciobfncaaRows
import Derived.Test.YtfcgjiciobfncaaDrawBb
import Derived.Test.YtfcgjiciobfncaaEqI
import Derived.Test.YtfcgjiciobfncaaRunX
import Derived.Test.YtfcgjiciobfncaaBasQ
import Derived.WalkKit
import Derived.Deep.RegionHeld3
import Derived.Deep.DeepCutAuto
import Derived.Deep.QuietTactic
import Derived.BigQuiet
import Derived.ProofKit
import Derived.OpenShut
import Derived.ShutString
import Derived.ChangeOld
import Derived.Below
import Derived.Lib.SmallJoins
namespace Go.Proofs.Ytfcgjiciobfncaa.fnSumsOf
open Go.ChangeShapes Go.WideShapes Go.ChangeAt Go.RowKit Go.Joins
open Go.ChangeMaps (open_string shut_string)
set_option linter.unusedVariables false
set_option linter.unusedSimpArgs false

theorem own : ownKnob Try.prog.godebug = none := by kernel_rfl
theorem laidOut : laidOutB Try.prog = true := by kernel_rfl

set_option maxRecDepth 100000 in
set_option maxHeartbeats 8000000 in
theorem walk (a0 : Option Addr) (len0 cap0 : Nat) (z0 : List Int) (w : World) (w0 : IsRow .u8 w a0 len0 cap0 z0) :
    Calls Try.prog 14 #[.slice a0 len0 cap0] w fun e w' => e = .returned (.bool true) ∧ Below w.heap.size w w' := by
  by_cases big : (1048576 : Int) < (len0 : Int)
  · go_enter Try.func14, Try.ntmps14
    go_wp2
    go_ret
    exact ⟨rfl, Below.refl _ _⟩
  go_enter Try.func14, Try.ntmps14
  go_wp2_with fail
  refine (drawSums a0 len0 cap0 z0 _ w0).mono ?_
  rintro e u1 ⟨b1, c1, cs, rfl, lc, hcs, I1, p1, B⟩
  clear w0 big
  have nc : cs.length ≤ 1048576 := by omega
  have CI : Hid (∀ (W : World), IsInts W b1 cs → Calls Try.prog 49 #[.slice b1 cs.length c1] W (OutI W (sumsV cs))) := fun W h1 => iSums b1 c1 cs W h1 nc
  have CS : Hid (∀ (W : World), IsInts W b1 cs → Calls Try.prog 50 #[.slice b1 cs.length c1] W (OutI W (sumsV cs))) := fun W h1 => sSums b1 c1 cs W h1 nc
  have nR : (sumsV cs).length ≤ 1048576 := by unfold sumsV; split; rw [sums_len]; exact nc; simp
  by_cases hq : (sumsV cs).length = 0
  · have e0 : (((sumsV cs).length : Int) == 0) = true := by rw [beq_iff_eq]; omega
    have e00 : ((sumsV cs).length == 0) = true := by rw [beq_iff_eq]; exact hq
    clear hq hcs
    generalize sumsV cs = R at *
    go_wp2_with fail
    refine (CI.out _ I1).mono ?_
    rintro e u2_ ⟨vO, rfl, O, C⟩
    obtain ⟨bO, cO, rfl, _⟩ := O.ints
    replace B := bel_tr B C
    replace I1 := ints_below I1 C
    clear C
    go_wp2_with fail
    refine (CS.out _ I1).mono ?_
    rintro e u3_ ⟨vP, rfl, P, C⟩
    obtain ⟨bP, cP, rfl, _⟩ := P.ints
    replace B := bel_tr B C
    replace I1 := ints_below I1 C
    replace O := O.of_block C
    clear C
    go_wp2_with fail
    refine (eqInts _ _ _ _ R _ O.at_ P.at_ nR).mono ?_
    rintro e u4_ ⟨rfl, C⟩
    replace B := bel_tr B C
    replace I1 := ints_below I1 C
    replace O := O.of_block C
    replace P := P.of_block C
    clear C
    go_wp2_with fail
    clear P
    refine (CS.out _ I1).mono ?_
    rintro e u5_ ⟨vQ, rfl, Q, C⟩
    obtain ⟨bQ, cQ, rfl, _⟩ := Q.ints
    replace B := bel_tr B C
    replace I1 := ints_below I1 C
    replace O := O.of_block C
    clear C
    go_wp2_with fail
    refine (eqInts _ _ _ _ R _ O.at_ Q.at_ nR).mono ?_
    rintro e u6_ ⟨rfl, C⟩
    replace B := bel_tr B C
    replace I1 := ints_below I1 C
    replace O := O.of_block C
    replace Q := Q.of_block C
    clear C
    go_wp2_with fail
    go_ret
    exact ⟨rfl, B⟩
  have hv : vfl cs = true := by
    cases e : vfl cs with
    | true => rfl
    | false => exact absurd (by rw [sums_no e]; rfl) hq
  have e0 : (((sumsV cs).length : Int) == 0) = false := by rw [beq_eq_false_iff_ne]; omega
  have e00 : ((sumsV cs).length == 0) = false := by rw [beq_eq_false_iff_ne]; exact hq
  rw [sums_yes hv] at *
  have hl := sums_len cs 0
  have HRISE := Lib.hid (fun k hk => sums_rise (zs := cs) (k := k) hk)
  have HBD := Lib.hid (fun k hk => sums_bd hv (k := k) hk)
  have HCS := Lib.hid (fun k hk => (vfl_is hv).2 _ (getD_mem (zs := cs) (k := k) hk))
  have h0 : 0 < cs.length := by omega
  obtain ⟨n1, n2⟩ := sums_ends h0
  have T1 := Lib.hid (fun z m => (by have := (vfl_is hv).2 z m; omega : -1000000 ≤ z ∧ z ≤ 1000000))
  have HL := Lib.hid hl
  have HN := Lib.hid (And.intro n1 n2)
  clear hq hcs hv hl n1 n2
  generalize sumsF 0 cs = R at *
  have l0 : 0 < R.length := by rw [HL.out]; exact h0
  go_wp2_with fail
  refine (CI.out _ I1).mono ?_
  rintro e u2_ ⟨vO, rfl, O, C⟩
  obtain ⟨bO, cO, rfl, _⟩ := O.ints
  replace B := bel_tr B C
  replace I1 := ints_below I1 C
  clear C
  go_wp2_with fail
  refine (CS.out _ I1).mono ?_
  rintro e u3_ ⟨vP, rfl, P, C⟩
  obtain ⟨bP, cP, rfl, _⟩ := P.ints
  replace B := bel_tr B C
  replace I1 := ints_below I1 C
  replace O := O.of_block C
  clear C
  go_wp2_with fail
  refine (eqInts _ _ _ _ R _ O.at_ P.at_ nR).mono ?_
  rintro e u4_ ⟨rfl, C⟩
  replace B := bel_tr B C
  replace I1 := ints_below I1 C
  replace O := O.of_block C
  replace P := P.of_block C
  clear C
  go_wp2_with fail
  clear P
  obtain ⟨gO, rfl, lO⟩ := O.form_ l0
  obtain ⟨g1, o1, rfl⟩ : ∃ g1 o1, b1 = some ⟨g1, o1, none⟩ := by
    rcases I1 with e | ⟨g1, o1, e, _⟩
    · rw [e] at h0; simp at h0
    · exact ⟨g1, o1, e⟩
  have HX := Lib.hid (And.intro O (And.intro I1 B))
  clear O I1 B
  go_loopw [5] (fun i wr => ∃ k : Nat, 1 ≤ k ∧ k ≤ R.length ∧ i = .int .i64 k ∧ Hid (OwnI wr _ (.slice (some ⟨gO, 0, none⟩) R.length cO) R ∧ IsInts wr (some ⟨g1, o1, none⟩) cs ∧ Below w.heap.size w wr)) (fun i _ => R.length - (intOf i).toNat)
  case atStart => exact ⟨1, Nat.le_refl _, l0, rfl, HX.out⟩
  case round =>
    clear HX
    obtain ⟨k, hk1, hk, rfl, HR⟩ := hrel
    by_cases hlt : k < R.length
    · obtain ⟨m, rfl⟩ : ∃ m, k = m + 1 := ⟨k - 1, by omega⟩
      have hlc : m + 1 < cs.length := by rw [← HL.out]; exact hlt
      have x1 := HR.out.1.cell hlt
      have x2 := HR.out.1.cell (j := m) (by omega)
      have x3 : wr.cell? ⟨g1, o1 + (m + 1), none⟩ = some (.int .i64 (cs.getD (m + 1) 0)) := by
        rcases HR.out.2.1 with e | ⟨g', o', e, h⟩
        · rw [e] at hlc; simp at hlc
        · injection e with e; injection e with e1 e2; subst e1 e2; exact h (m + 1) hlc
      rw [HRISE.out m hlc] at x1
      have b1 := HBD.out m (by omega)
      have b2 := HCS.out (m + 1) hlc
      generalize R.getD m 0 = x at *
      generalize cs.getD (m + 1) 0 = y at *
      have i0 : (0 : Int) ≤ ((m + 1 : Nat) : Int) := by omega
      have i1 : ((m + 1 : Nat) : Int) < (R.length : Int) := by omega
      have i2 : ((m + 1 : Nat) : Int) < (cs.length : Int) := by omega
      have i3 : (0 : Int) ≤ (m : Int) := by omega
      have i4 : (m : Int) < (R.length : Int) := by omega
      have wm : IntKind.i64.wrap (((m + 1 : Nat) : Int) - 1) = (m : Int) := by rw [IntKind.wrap_i64]; omega
      have wy : IntKind.i64.wrap (x + y) = x + y := by rw [IntKind.wrap_i64]; omega
      obtain ⟨k, hk⟩ : ∃ k, k = m + 1 := ⟨_, rfl⟩
      rw [← hk] at hlt x1 x3 i0 i1 i2 wm ⊢
      clear hlc hk
      go_wp2_with fail
      go_quiet (fail)
      go_wp2_with fail
      go_roundw
      case rel => exact ⟨k + 1, by omega, by omega, by go_num, ⟨HR.out.1, HR.out.2.1, below_drewN HR.out.2.2 _⟩⟩
      case measure => simp [intOf]; omega
    · obtain ⟨m, hm⟩ : ∃ m, R.length = m + 1 := ⟨R.length - 1, by omega⟩
      have x1 := HR.out.1.cell l0
      have x2 := HR.out.1.cell (j := m) (by omega)
      have x3 : wr.cell? ⟨g1, o1 + 0, none⟩ = some (.int .i64 (cs.getD 0 0)) := by
        rcases HR.out.2.1 with e | ⟨g', o', e, h⟩
        · rw [e] at h0; simp at h0
        · injection e with e; injection e with e1 e2; subst e1 e2; exact h 0 h0
      rw [HN.out.1] at x1
      rw [show m = cs.length - 1 from by rw [← HL.out]; omega, HN.out.2, ← show m = cs.length - 1 from by rw [← HL.out]; omega] at x2
      rw [Nat.add_zero] at x3
      generalize cs.getD 0 0 = y0 at *
      have lt1 := World.block_lt_of_cell? _ _ x1
      have lt3 := World.block_lt_of_cell? _ _ x3
      have i1 : (0 : Int) < (R.length : Int) := by omega
      have i2 : (0 : Int) < (cs.length : Int) := by omega
      have i3 : (0 : Int) ≤ (m : Int) := by omega
      have i4 : (m : Int) < (R.length : Int) := by omega
      have wm : IntKind.i64.wrap ((R.length : Int) - 1) = (m : Int) := by rw [IntKind.wrap_i64]; omega
      have e4 : ((R.length : Int) == (cs.length : Int)) = true := by rw [HL.out]; simp
      have e44 : (R.length == cs.length) = true := by rw [HL.out]; simp
      have J1 := HR.out.2.1
      have B := HR.out.2.2
      clear HR hm hk1
      go_wp2_with fail
      have HMK99 := Lib.hid (fun (W : World) (hW : Below wr.heap.size wr W) => (⟨⟨(hW.cell (p := ⟨gO, 0, none⟩) (lt1)).trans x1, (hW.cell (p := ⟨gO, m, none⟩) (lt1)).trans x2, (hW.cell (p := ⟨g1, o1, none⟩) (lt3)).trans x3⟩, hW⟩ : (W.cell? ⟨gO, 0, none⟩ = some (.int .i64 y0) ∧ W.cell? ⟨gO, m, none⟩ = some (.int .i64 cs.sum) ∧ W.cell? ⟨g1, o1, none⟩ = some (.int .i64 y0)) ∧ Below wr.heap.size wr W))
      refine wp_region_held_drew (S := (fun w' => (w'.cell? ⟨gO, 0, none⟩ = some (.int .i64 y0) ∧ w'.cell? ⟨gO, m, none⟩ = some (.int .i64 cs.sum) ∧ w'.cell? ⟨g1, o1, none⟩ = some (.int .i64 y0)) ∧ Below wr.heap.size wr w')) (by kernel_rfl) ?_ (fun hHeld => ?_)
      · exact ⟨⟨x1, x2, x3⟩, (Below.refl _ _).drew⟩
      refine wpAnyH_take (i := 0) (oi := ?ooa100_) (v := ?vva100_) ?hia100_ (by kernel_rfl) ?h3a100_ ?h4a100_ ?h5a100_ ?h6a100_ (by assumption) ?h8a100_
      case hia100_ => (simp only [List.getElem?_toArray, List.getElem?_cons_succ, List.getElem?_cons_zero]; rfl)
      case h3a100_ => kernel_rfl
      case h4a100_ => kernel_rfl
      case h6a100_ => (refine Or.inl ⟨by rfl, ?_⟩; intro w hSw; (try dsimp only at hSw); (go_simp <;> with_reducible rfl))
      case h5a100_ => exact fun _ _ _ h => h
      try simp only [Act.put, List.setIfInBounds_toArray, List.set_cons_zero, List.set_cons_succ]
      refine wpAnyH_take (i := 1) (oi := ?ooa101_) (v := ?vva101_) ?hia101_ (by kernel_rfl) ?h3a101_ ?h4a101_ ?h5a101_ ?h6a101_ (by assumption) ?h8a101_
      case hia101_ => (simp only [List.getElem?_toArray, List.getElem?_cons_succ, List.getElem?_cons_zero]; rfl)
      case h3a101_ => kernel_rfl
      case h4a101_ => kernel_rfl
      case h6a101_ => (refine Or.inl ⟨by rfl, ?_⟩; intro w hSw; (try dsimp only at hSw); (go_simp <;> with_reducible rfl))
      case h5a101_ => exact fun _ _ _ h => h
      try simp only [Act.put, List.setIfInBounds_toArray, List.set_cons_zero, List.set_cons_succ]
      refine wpAnyH_take (i := 2) (oi := ?ooa102_) (v := ?vva102_) ?hia102_ (by kernel_rfl) ?h3a102_ ?h4a102_ ?h5a102_ ?h6a102_ (by assumption) ?h8a102_
      case hia102_ => (simp only [List.getElem?_toArray, List.getElem?_cons_succ, List.getElem?_cons_zero]; rfl)
      case h3a102_ => kernel_rfl
      case h4a102_ => kernel_rfl
      case h6a102_ => (refine Or.inl ⟨by rfl, ?_⟩; intro w hSw; (try dsimp only at hSw); (go_simp <;> with_reducible rfl))
      case h5a102_ => exact fun _ _ _ h => h
      try simp only [Act.put, List.setIfInBounds_toArray, List.set_cons_zero, List.set_cons_succ]
      refine wpAnyH_take (i := 3) (oi := ?ooa103_) (v := ?vva103_) ?hia103_ (by kernel_rfl) ?h3a103_ ?h4a103_ ?h5a103_ ?h6a103_ (by assumption) ?h8a103_
      case hia103_ => (simp only [List.getElem?_toArray, List.getElem?_cons_succ, List.getElem?_cons_zero]; rfl)
      case h3a103_ => kernel_rfl
      case h4a103_ => kernel_rfl
      case h6a103_ => (refine Or.inl ⟨by rfl, ?_⟩; intro w hSw; (try dsimp only at hSw); (go_simp <;> with_reducible rfl))
      case h5a103_ => exact fun _ _ _ h => h
      try simp only [Act.put, List.setIfInBounds_toArray, List.set_cons_zero, List.set_cons_succ]
      refine wpAnyH_take (i := 4) (oi := ?ooa104_) (v := ?vva104_) ?hia104_ (by kernel_rfl) ?h3a104_ ?h4a104_ ?h5a104_ ?h6a104_ (by assumption) ?h8a104_
      case hia104_ => (simp only [List.getElem?_toArray, List.getElem?_cons_succ, List.getElem?_cons_zero]; rfl)
      case h3a104_ => kernel_rfl
      case h4a104_ => kernel_rfl
      case h6a104_ => (refine Or.inl ⟨by rfl, ?_⟩; intro w hSw; (try dsimp only at hSw); (go_simp <;> with_reducible rfl))
      case h5a104_ => exact fun _ _ _ h => h
      try simp only [Act.put, List.setIfInBounds_toArray, List.set_cons_zero, List.set_cons_succ]
      refine wpAnyH_take (i := 5) (oi := ?ooa105_) (v := ?vva105_) ?hia105_ (by kernel_rfl) ?h3a105_ ?h4a105_ ?h5a105_ ?h6a105_ (by assumption) ?h8a105_
      case hia105_ => (simp only [List.getElem?_toArray, List.getElem?_cons_succ, List.getElem?_cons_zero]; rfl)
      case h3a105_ => kernel_rfl
      case h4a105_ => kernel_rfl
      case h6a105_ => (refine Or.inl ⟨by rfl, ?_⟩; intro w hSw; (try dsimp only at hSw); (go_simp <;> with_reducible rfl))
      case h5a105_ => exact fun _ _ _ h => h
      try simp only [Act.put, List.setIfInBounds_toArray, List.set_cons_zero, List.set_cons_succ]
      refine wpAnyH_take (i := 6) (oi := ?ooa106_) (v := ?vva106_) ?hia106_ (by kernel_rfl) ?h3a106_ ?h4a106_ ?h5a106_ ?h6a106_ (by assumption) ?h8a106_
      case hia106_ => (simp only [List.getElem?_toArray, List.getElem?_cons_succ, List.getElem?_cons_zero]; rfl)
      case h3a106_ => kernel_rfl
      case h4a106_ => kernel_rfl
      case h6a106_ => (refine Or.inl ⟨by rfl, ?_⟩; intro w hSw; (try dsimp only at hSw); (go_simp <;> with_reducible rfl))
      case h5a106_ => exact fun _ _ _ h => h
      try simp only [Act.put, List.setIfInBounds_toArray, List.set_cons_zero, List.set_cons_succ]
      refine wpAnyH_take (i := 7) (oi := ?ooa107_) (v := ?vva107_) ?hia107_ (by kernel_rfl) ?h3a107_ ?h4a107_ ?h5a107_ ?h6a107_ (by assumption) ?h8a107_
      case hia107_ => (simp only [List.getElem?_toArray, List.getElem?_cons_succ, List.getElem?_cons_zero]; rfl)
      case h3a107_ => kernel_rfl
      case h4a107_ => kernel_rfl
      case h6a107_ => (refine Or.inl ⟨by rfl, ?_⟩; intro w hSw; (try dsimp only at hSw); (go_simp <;> with_reducible rfl))
      case h5a107_ => exact fun _ _ _ h => h
      try simp only [Act.put, List.setIfInBounds_toArray, List.set_cons_zero, List.set_cons_succ]
      refine wpAnyH_take (i := 8) (oi := ?ooa108_) (v := ?vva108_) ?hia108_ (by kernel_rfl) ?h3a108_ ?h4a108_ ?h5a108_ ?h6a108_ (by assumption) ?h8a108_
      case hia108_ => (simp only [List.getElem?_toArray, List.getElem?_cons_succ, List.getElem?_cons_zero]; rfl)
      case h3a108_ => kernel_rfl
      case h4a108_ => kernel_rfl
      case h6a108_ => (refine Or.inl ⟨by rfl, ?_⟩; intro w hSw; (try dsimp only at hSw); (go_simp <;> with_reducible rfl))
      case h5a108_ => exact fun _ _ _ h => h
      try simp only [Act.put, List.setIfInBounds_toArray, List.set_cons_zero, List.set_cons_succ]
      refine wpAnyH_take (i := 9) (oi := ?ooa109_) (v := ?vva109_) ?hia109_ (by kernel_rfl) ?h3a109_ ?h4a109_ ?h5a109_ ?h6a109_ (by assumption) ?h8a109_
      case hia109_ => (simp only [List.getElem?_toArray, List.getElem?_cons_succ, List.getElem?_cons_zero]; rfl)
      case h3a109_ => kernel_rfl
      case h4a109_ => kernel_rfl
      case h6a109_ => (refine Or.inl ⟨by rfl, ?_⟩; intro w hSw; (try dsimp only at hSw); (go_simp <;> with_reducible rfl))
      case h5a109_ => exact fun _ _ _ h => h
      try simp only [Act.put, List.setIfInBounds_toArray, List.set_cons_zero, List.set_cons_succ]
      refine wpAnyH_take (i := 10) (oi := ?ooa110_) (v := ?vva110_) ?hia110_ (by kernel_rfl) ?h3a110_ ?h4a110_ ?h5a110_ ?h6a110_ (by assumption) ?h8a110_
      case hia110_ => (simp only [List.getElem?_toArray, List.getElem?_cons_succ, List.getElem?_cons_zero]; rfl)
      case h3a110_ => kernel_rfl
      case h4a110_ => kernel_rfl
      case h6a110_ => (refine Or.inl ⟨by rfl, ?_⟩; intro w hSw; (try dsimp only at hSw); (go_simp <;> with_reducible rfl))
      case h5a110_ => exact fun _ _ _ h => h
      try simp only [Act.put, List.setIfInBounds_toArray, List.set_cons_zero, List.set_cons_succ]
      refine wpAnyH_take (i := 11) (oi := ?ooa111_) (v := ?vva111_) ?hia111_ (by kernel_rfl) ?h3a111_ ?h4a111_ ?h5a111_ ?h6a111_ (by assumption) ?h8a111_
      case hia111_ => (simp only [List.getElem?_toArray, List.getElem?_cons_succ, List.getElem?_cons_zero]; rfl)
      case h3a111_ => kernel_rfl
      case h4a111_ => kernel_rfl
      case h6a111_ => (refine Or.inl ⟨by rfl, ?_⟩; intro w hSw; (try dsimp only at hSw); (go_simp <;> with_reducible rfl))
      case h5a111_ => exact fun _ _ _ h => h
      try simp only [Act.put, List.setIfInBounds_toArray, List.set_cons_zero, List.set_cons_succ]
      refine wpAnyH_take (i := 12) (oi := ?ooa112_) (v := ?vva112_) ?hia112_ (by kernel_rfl) ?h3a112_ ?h4a112_ ?h5a112_ ?h6a112_ (by assumption) ?h8a112_
      case hia112_ => (simp only [List.getElem?_toArray, List.getElem?_cons_succ, List.getElem?_cons_zero]; rfl)
      case h3a112_ => kernel_rfl
      case h4a112_ => kernel_rfl
      case h6a112_ => (refine Or.inl ⟨by rfl, ?_⟩; intro w hSw; (try dsimp only at hSw); (go_simp <;> with_reducible rfl))
      case h5a112_ => exact fun _ _ _ h => h
      try simp only [Act.put, List.setIfInBounds_toArray, List.set_cons_zero, List.set_cons_succ]
      refine wpAnyH_take (i := 13) (oi := ?ooa113_) (v := ?vva113_) ?hia113_ (by kernel_rfl) ?h3a113_ ?h4a113_ ?h5a113_ ?h6a113_ (by assumption) ?h8a113_
      case hia113_ => (simp only [List.getElem?_toArray, List.getElem?_cons_succ, List.getElem?_cons_zero]; rfl)
      case h3a113_ => kernel_rfl
      case h4a113_ => kernel_rfl
      case h6a113_ => (refine Or.inl ⟨by rfl, ?_⟩; intro w hSw; (try dsimp only at hSw); (go_simp <;> with_reducible rfl))
      case h5a113_ => exact fun _ _ _ h => h
      try simp only [Act.put, List.setIfInBounds_toArray, List.set_cons_zero, List.set_cons_succ]
      refine wpAnyH_take (i := 14) (oi := ?ooa114_) (v := ?vva114_) ?hia114_ (by kernel_rfl) ?h3a114_ ?h4a114_ ?h5a114_ ?h6a114_ (by assumption) ?h8a114_
      case hia114_ => (simp only [List.getElem?_toArray, List.getElem?_cons_succ, List.getElem?_cons_zero]; rfl)
      case h3a114_ => kernel_rfl
      case h4a114_ => kernel_rfl
      case h6a114_ => (refine Or.inl ⟨by rfl, ?_⟩; intro w hSw; (try dsimp only at hSw); (go_simp <;> with_reducible rfl))
      case h5a114_ => exact fun _ _ _ h => h
      try simp only [Act.put, List.setIfInBounds_toArray, List.set_cons_zero, List.set_cons_succ]
      refine wpAnyH_ready (rs := [15]) (by kernel_rfl) (by simp) (AllReadyH.cons (o := ?ooa115_q0) ?hia115_q0 (fun K hK => ?hka115_q0) AllReadyH.nil)
      case hia115_q0 => (simp only [List.getElem?_toArray, List.getElem?_cons_succ, List.getElem?_cons_zero]; rfl)
      case hka115_q0 =>
        (rw [if_pos (by rfl)]; go_simp; refine (ltotal _ _ cs _ (ints_below J1 hHeld.2) nc T1.out).mono ?_; rintro e w' ⟨rfl, rfl⟩; go_wp2_with fail; refine hK.out _ _ (hHeld) (fun hHeld => ?_); clear hK K)
        try simp only [Act.put, List.setIfInBounds_toArray, List.set_cons_zero, List.set_cons_succ]
        refine wpAnyH_take (i := 16) (oi := ?ooa116_) (v := ?vva116_) ?hia116_ (by kernel_rfl) ?h3a116_ ?h4a116_ ?h5a116_ ?h6a116_ (by assumption) ?h8a116_
        case hia116_ => (simp only [List.getElem?_toArray, List.getElem?_cons_succ, List.getElem?_cons_zero]; rfl)
        case h3a116_ => kernel_rfl
        case h4a116_ => kernel_rfl
        case h6a116_ => (refine Or.inl ⟨by rfl, ?_⟩; intro w hSw; (try dsimp only at hSw); (go_simp <;> with_reducible rfl))
        case h5a116_ => exact fun _ _ _ h => h
        try simp only [Act.put, List.setIfInBounds_toArray, List.set_cons_zero, List.set_cons_succ]
        refine wpAnyH_take (i := 17) (oi := ?ooa117_) (v := ?vva117_) ?hia117_ (by kernel_rfl) ?h3a117_ ?h4a117_ ?h5a117_ ?h6a117_ (by assumption) ?h8a117_
        case hia117_ => (simp only [List.getElem?_toArray, List.getElem?_cons_succ, List.getElem?_cons_zero]; rfl)
        case h3a117_ => kernel_rfl
        case h4a117_ => kernel_rfl
        case h6a117_ => (refine Or.inl ⟨by rfl, ?_⟩; intro w hSw; (try dsimp only at hSw); (go_simp <;> with_reducible rfl))
        case h5a117_ => exact fun _ _ _ h => h
        try simp only [Act.put, List.setIfInBounds_toArray, List.set_cons_zero, List.set_cons_succ]
        refine wpAnyH_take (i := 18) (oi := ?ooa118_) (v := ?vva118_) ?hia118_ (by kernel_rfl) ?h3a118_ ?h4a118_ ?h5a118_ ?h6a118_ (by assumption) ?h8a118_
        case hia118_ => (simp only [List.getElem?_toArray, List.getElem?_cons_succ, List.getElem?_cons_zero]; rfl)
        case h3a118_ => kernel_rfl
        case h4a118_ => kernel_rfl
        case h6a118_ => (refine Or.inl ⟨by rfl, ?_⟩; intro w hSw; (try dsimp only at hSw); (go_simp <;> with_reducible rfl))
        case h5a118_ => exact fun _ _ _ h => h
        try simp only [Act.put, List.setIfInBounds_toArray, List.set_cons_zero, List.set_cons_succ]
        refine wpAnyH_take (i := 19) (oi := ?ooa119_) (v := ?vva119_) ?hia119_ (by kernel_rfl) ?h3a119_ ?h4a119_ ?h5a119_ ?h6a119_ (by assumption) ?h8a119_
        case hia119_ => (simp only [List.getElem?_toArray, List.getElem?_cons_succ, List.getElem?_cons_zero]; rfl)
        case h3a119_ => kernel_rfl
        case h4a119_ => kernel_rfl
        case h6a119_ => (refine Or.inl ⟨by rfl, ?_⟩; intro w hSw; (try dsimp only at hSw); (go_simp <;> with_reducible rfl))
        case h5a119_ => exact fun _ _ _ h => h
        try simp only [Act.put, List.setIfInBounds_toArray, List.set_cons_zero, List.set_cons_succ]
        refine wpAnyH_take (i := 20) (oi := ?ooa120_) (v := ?vva120_) ?hia120_ (by kernel_rfl) ?h3a120_ ?h4a120_ ?h5a120_ ?h6a120_ (by assumption) ?h8a120_
        case hia120_ => (simp only [List.getElem?_toArray, List.getElem?_cons_succ, List.getElem?_cons_zero]; rfl)
        case h3a120_ => kernel_rfl
        case h4a120_ => kernel_rfl
        case h6a120_ => (refine Or.inl ⟨by rfl, ?_⟩; intro w hSw; (try dsimp only at hSw); (go_simp <;> with_reducible rfl))
        case h5a120_ => exact fun _ _ _ h => h
        try simp only [Act.put, List.setIfInBounds_toArray, List.set_cons_zero, List.set_cons_succ]
        refine wpAnyH_take (i := 21) (oi := ?ooa121_) (v := ?vva121_) ?hia121_ (by kernel_rfl) ?h3a121_ ?h4a121_ ?h5a121_ ?h6a121_ (by assumption) ?h8a121_
        case hia121_ => (simp only [List.getElem?_toArray, List.getElem?_cons_succ, List.getElem?_cons_zero]; rfl)
        case h3a121_ => kernel_rfl
        case h4a121_ => kernel_rfl
        case h6a121_ => (refine Or.inl ⟨by rfl, ?_⟩; intro w hSw; (try dsimp only at hSw); (go_simp <;> with_reducible rfl))
        case h5a121_ => exact fun _ _ _ h => h
        try simp only [Act.put, List.setIfInBounds_toArray, List.set_cons_zero, List.set_cons_succ]
        refine wpAnyH_take (i := 22) (oi := ?ooa122_) (v := ?vva122_) ?hia122_ (by kernel_rfl) ?h3a122_ ?h4a122_ ?h5a122_ ?h6a122_ (by assumption) ?h8a122_
        case hia122_ => (simp only [List.getElem?_toArray, List.getElem?_cons_succ, List.getElem?_cons_zero]; rfl)
        case h3a122_ => kernel_rfl
        case h4a122_ => kernel_rfl
        case h6a122_ => (refine Or.inl ⟨by rfl, ?_⟩; intro w hSw; (try dsimp only at hSw); (go_simp <;> with_reducible rfl))
        case h5a122_ => exact fun _ _ _ h => h
        try simp only [Act.put, List.setIfInBounds_toArray, List.set_cons_zero, List.set_cons_succ]
        refine wpAnyH_take (i := 23) (oi := ?ooa123_) (v := ?vva123_) ?hia123_ (by kernel_rfl) ?h3a123_ ?h4a123_ ?h5a123_ ?h6a123_ (by assumption) ?h8a123_
        case hia123_ => (simp only [List.getElem?_toArray, List.getElem?_cons_succ, List.getElem?_cons_zero]; rfl)
        case h3a123_ => kernel_rfl
        case h4a123_ => kernel_rfl
        case h6a123_ => (refine Or.inl ⟨by rfl, ?_⟩; intro w hSw; (try dsimp only at hSw); (go_simp <;> with_reducible rfl))
        case h5a123_ => exact fun _ _ _ h => h
        try simp only [Act.put, List.setIfInBounds_toArray, List.set_cons_zero, List.set_cons_succ]
        refine wpAnyH_take (i := 24) (oi := ?ooa124_) (v := ?vva124_) ?hia124_ (by kernel_rfl) ?h3a124_ ?h4a124_ ?h5a124_ ?h6a124_ (by assumption) ?h8a124_
        case hia124_ => (simp only [List.getElem?_toArray, List.getElem?_cons_succ, List.getElem?_cons_zero]; rfl)
        case h3a124_ => kernel_rfl
        case h4a124_ => kernel_rfl
        case h6a124_ => (refine Or.inl ⟨by rfl, ?_⟩; intro w hSw; (try dsimp only at hSw); (go_simp <;> with_reducible rfl))
        case h5a124_ => exact fun _ _ _ h => h
        try simp only [Act.put, List.setIfInBounds_toArray, List.set_cons_zero, List.set_cons_succ]
        refine wpAnyH_take (i := 25) (oi := ?ooa125_) (v := ?vva125_) ?hia125_ (by kernel_rfl) ?h3a125_ ?h4a125_ ?h5a125_ ?h6a125_ (by assumption) ?h8a125_
        case hia125_ => (simp only [List.getElem?_toArray, List.getElem?_cons_succ, List.getElem?_cons_zero]; rfl)
        case h3a125_ => kernel_rfl
        case h4a125_ => kernel_rfl
        case h6a125_ => (refine Or.inl ⟨by rfl, ?_⟩; intro w hSw; (try dsimp only at hSw); (go_simp <;> with_reducible rfl))
        case h5a125_ => exact fun _ _ _ h => h
        try simp only [Act.put, List.setIfInBounds_toArray, List.set_cons_zero, List.set_cons_succ]
        refine wpAnyH_done (by kernel_rfl) ?_ _
        clear HMK99
        have C := hHeld.2
        replace B := bel_tr B C
        clear hHeld
        go_wp2_with fail
        go_ret
        exact ⟨rfl, B⟩

set_option maxRecDepth 100000 in
theorem lifted (os : Os) (started : os.Started) (H : Type) (enc : TypeId × Value → H) :
    ReturnsInHanded {} Try.checked os 14 .any (Rows.fnSumsOfSpec.pre6 enc Try.prog Try.f14 Rows.fnSumsOfRow.domain false) (Rows.fnSumsOfSpec.post enc Try.prog Try.f14 false true false false) := by
  refine returnsInHanded_of_change (C := Try.checked) own started (by kernel_rfl) Try.func14
    (ChangeSpec.witness6 (enc := enc) (C := Try.checked) false ⟨#[], #[.slice none 0 0], []⟩ 8 (by kernel_rfl) (by kernel_rfl) (by kernel_rfl) (by kernel_rfl)) ?_
  intro W base args ds gs before hval0 hW hcnd _
  have hval : ∀ (j : Nat) t v, Try.f14.params[j]? = some t → args[j]? = some v → Value.okWide Try.prog W .any base t v := hval0
  have hW' := hW
  obtain ⟨p, q, hA0, hV, rfl, hfz, hnd⟩ := hW
  have hA : DataW.TrodAll enc Try.prog W 0 (fun _ => true) true Try.f14.params.toList args.toList ds p := hA0
  rw [Try.params14] at hA hval
  obtain ⟨v0, vs0, e0, es0, p0, q0, hargs, rfl, rfl, h0, r0⟩ := trodAll_cons hA
  obtain ⟨rfl, rfl, rfl⟩ := trodAll_nil r0
  obtain rfl : args = #[v0] := by cases args; simp_all
  obtain ⟨rfl, rfl⟩ := trodVars_none hV
  have k0 := h0
  have lt0 : ∀ x ∈ p0, x.block < W.heap.size := by obtain ⟨m, hm⟩ := k0; exact DataW.trod_lt m _ _ _ hm
  obtain ⟨a0, len0, cap0, rfl⟩ := okWide_slice Try.underlying22 (hval 0 22 v0 rfl rfl)
  obtain ⟨z0, w0⟩ : ∃ zs, IsRow .u8 W a0 len0 cap0 zs := by
    obtain ⟨fuel, hf⟩ := h0
    rcases open_ints Try.underlying22 Try.underlying5 (by kernel_rfl) hf with ⟨hcs, _⟩ | ⟨x, l, c, zs, hcs, _, hl, hm, hz, _, hcell, hwz⟩
    · simp [Value.cells] at hcs
      obtain ⟨rfl, rfl, rfl⟩ := hcs
      exact ⟨[], .inl ⟨rfl, rfl, rfl, rfl⟩⟩
    · simp [Value.cells] at hcs
      obtain ⟨rfl, rfl, rfl⟩ := hcs
      exact ⟨zs, .inr ⟨_, rfl, hl, hm, by simpa using hz, hcell, hwz⟩⟩
  clear hA0 hval0
  refine (walk a0 len0 cap0 z0 W w0).mono fun e W' ⟨he, bel⟩ => ?_
  subst he
  exact ⟨_, rfl, _, _, _, [], _, [], hW', trodAll_mk1 (shut_bool Try.underlying4 _), (trodAll_cons_mk (Below.trod laidOut (by kernel_rfl) (of_decide_eq_true (by kernel_rfl)) k0 bel lt0) trodAll_mk0), rfl, bel.frame _, fun h => by cases h⟩

theorem over : Rows.fnSumsOfRow.holds Try.pinned (OpenSpec.ofChange Rows.fnSumsOfSpec) :=
  OpenClaim.holds_of_wide 14 Try.f14 rfl rfl rfl rfl rfl rfl rfl ⟨rfl, rfl, rfl, rfl, rfl⟩ rfl rfl rfl rfl rfl (by kernel_rfl) Try.func14 (by kernel_rfl)
    (of_decide_eq_true (by kernel_rfl)) (by unfold Func.isWrapper; first | (rw [if_pos (by decide +kernel)]; kernel_rfl) | (rw [if_neg (by decide +kernel)]; exact ⟨rfl, rfl⟩))
    (fun os started H enc _ => lifted os started H enc)

end Go.Proofs.Ytfcgjiciobfncaa.fnSumsOf
namespace Go.Proofs.Ytfcgjiciobfncaa
/-- the statement -/
theorem fnSumsOf_holds : Rows.FnSumsOfSaid := fnSumsOf.over
end Go.Proofs.Ytfcgjiciobfncaa
