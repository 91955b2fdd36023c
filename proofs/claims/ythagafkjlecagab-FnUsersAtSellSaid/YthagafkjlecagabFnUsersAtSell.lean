/- For every input the law answers true, and its argument reads afterwards as before: sales one after another. No condition. -/
import Derived.Test.YthagafkjlecagabRows
import Derived.Test.YthagafkjlecagabDrawLt
import Derived.Test.YthagafkjlecagabUsI
import Derived.Test.YthagafkjlecagabUsS
import Derived.Test.YthagafkjlecagabUsW
import Derived.Test.YthagafkjlecagabLsM
import Derived.Test.YthagafkjlecagabEqH
import Derived.Test.YthagafkjlecagabGrA
import Derived.WalkKit
import Derived.ProofKit
import Derived.OpenShut
import Derived.ShutString
import Derived.ChangeOld
import Derived.Below
import Derived.Lib.SmallJoins
namespace Go.Proofs.Ythagafkjlecagab.fnUsersAtSell
open Go.ChangeShapes Go.WideShapes Go.ChangeAt Go.RowKit Go.Joins
open Go.ChangeMaps (open_string shut_string)
set_option linter.unusedVariables false
set_option linter.unusedSimpArgs false

theorem own : ownKnob Try.prog.godebug = none := by kernel_rfl
theorem laidOut : laidOutB Try.prog = true := by kernel_rfl

set_option maxRecDepth 100000 in
set_option maxHeartbeats 6000000 in
theorem walk (a0 : Option Addr) (len0 cap0 : Nat) (z0 : List Int) (w : World) (w0 : IsRow .u8 w a0 len0 cap0 z0) :
    Calls Try.prog 6 #[.slice a0 len0 cap0] w fun e w' => e = .returned (.bool true) ∧ Below w.heap.size w w' := by
  by_cases big : (1048576 : Int) < (len0 : Int)
  · go_enter Try.func6, Try.ntmps6
    go_wp2
    go_ret
    exact ⟨rfl, Below.refl _ _⟩
  go_enter Try.func6, Try.ntmps6
  go_wp2_with fail
  refine (drawUs a0 len0 cap0 z0 _ w0).mono ?_
  rintro e u1 ⟨b, A, cp, cz, hs, ls, t, rfl, hl6, hlc, hl3, hi, hz, B⟩
  clear w0 big
  have n1 : hs.length ≤ 1048576 := by omega
  have HI := Lib.hid hi
  have HZ := Lib.hid hz
  have D := Below.refl u1.heap.size u1
  clear hi hz
  have CI : ∀ W, Below u1.heap.size u1 W → Calls Try.prog 14 #[.slice b hs.length cp, .slice A ls.length cz, .int .i64 t] W (MoveV W (usB hs ls t) (usL hs ls t)) := fun W hW => iUsers b cp hs A cz ls t W (hs_below HI.out hW) n1 (ls_below HZ.out hW) (by omega)
  have CS : ∀ W, Below u1.heap.size u1 W → Calls Try.prog 11 #[.slice b hs.length cp, .slice A ls.length cz, .int .i64 t] W (MoveV W (usB hs ls t) (usL hs ls t)) := fun W hW => sUsers b cp hs A cz ls t W (hs_below HI.out hW) n1 (ls_below HZ.out hW) (by omega)
  obtain ⟨R, hR⟩ : ∃ R, rawL (usL hs ls t) = R := ⟨_, rfl⟩
  have HR := Lib.hid hR
  cases hv : usB hs ls t with
  | false =>
    rw [hv] at CI CS
    clear hv hR
    go_wp2_with fail
    refine (CI _ D).mono ?_
    rintro e u2 ⟨v, rfl, m1, m2, C⟩
    replace B := bel_tr B C
    replace D := bel_tr D C
    clear C
    obtain rfl := m1 rfl
    clear m1 m2
    go_wp2_with fail
    refine (CS _ D).mono ?_
    rintro e u3 ⟨v, rfl, m1, m2, C⟩
    replace B := bel_tr B C
    replace D := bel_tr D C
    obtain rfl := m1 rfl
    clear m1 m2 C
    go_wp2_with fail
    refine (eqHd none none 0 0 [] _ (.inl rfl) (.inl rfl) (by decide)).mono ?_
    rintro e u ⟨rfl, C⟩
    replace B := bel_tr B C
    replace D := bel_tr D C
    clear C
    go_wp2_with fail
    refine (eqHd none none 0 0 [] _ (.inl rfl) (.inl rfl) (by decide)).mono ?_
    rintro e u ⟨rfl, C⟩
    replace B := bel_tr B C
    replace D := bel_tr D C
    clear C
    go_wp2_with fail
    go_ret
    exact ⟨rfl, B⟩
  | true =>
    have hR0 := us_small hv
    rw [hR] at hR0
    obtain ⟨_, nR⟩ := hR0
    have HS : Hid ((∀ k, k < ls.length → atB (ls.getD k lr0) t = false) → R = hs) := fun h => by rw [← hR]; exact us_same hv h
    have HV : Hid (vlR R = true) := by show _ = _; rw [← hR]; exact (us_vl hv).1
    have HVL := Lib.hid (us_vl hv).2.2
    have HUS := Lib.hid (us_vl hv).2.1
    rw [hv] at CI CS
    clear hv hR HS HV
    go_wp2_with fail
    refine (CI _ D).mono ?_
    rintro e u2 ⟨v, rfl, m1, m2, C⟩
    replace B := bel_tr B C
    replace D := bel_tr D C
    clear C
    have hO2 := m2 rfl
    rw [HR.out] at hO2
    obtain ⟨b2, c2, rfl, I2, _⟩ := own_hs2 hO2
    have E2 := Below.refl u2.heap.size u2
    clear m1 m2 hO2
    go_wp2_with fail
    refine (CS _ D).mono ?_
    rintro e u3 ⟨v, rfl, m1, m2, C⟩
    replace B := bel_tr B C
    replace D := bel_tr D C
    have hO3 := m2 rfl
    rw [HR.out] at hO3
    obtain ⟨b3, c3, rfl, I3, _⟩ := own_hs2 hO3
    replace I2 := hs_below I2 C
    clear m1 m2 hO3 C E2
    have E := Below.refl u3.heap.size u3
    go_wp2_with fail
    refine (eqHd b2 b3 _ _ R _ (hs_below I2 E) (hs_below I3 E) nR).mono ?_
    rintro e u ⟨rfl, C⟩
    replace B := bel_tr B C
    replace D := bel_tr D C
    replace E := bel_tr E C
    clear C
    obtain ⟨uS, huS⟩ : ∃ y, y = u := ⟨_, rfl⟩
    subst huS
    have HZ2 := Lib.hid (ls_below HZ.out D)
    have HBS := Lib.hid B
    have I2S := Lib.hid (hs_below I2 E)
    have I0 := hs_below HI.out D
    have hraw := (us_start HVL.out).1
    clear E I2 I3 D B
    go_wp2_with fail
    go_loopw [10, 11] (fun v i wr => ∃ (k : Nat) (L : Led) (b4 : Option Addr) (c4 : Nat), k ≤ ls.length ∧ i = .int .i64 (k : Int) ∧ v = .slice b4 (rawL L).length c4 ∧ IsHs wr b4 (rawL L) ∧ (rawL L).length ≤ c4 ∧ Hid (vlR (rawL L) = true ∧ uO t L (ls.drop k) = uO t (ledOf hs) ls) ∧ Below uS.heap.size uS wr) (fun _ i _ => ls.length - (intOf i).toNat)
    case atStart => exact ⟨0, ledOf hs, b, cp, Nat.zero_le _, rfl, by rw [hraw], by rw [hraw]; exact I0, by rw [hraw]; exact hlc, ⟨by rw [hraw]; exact HVL.out, rfl⟩, Below.refl _ _⟩
    case round =>
      obtain ⟨k, L, b4, c4, hk, rfl, rfl, hI, hle, HU, hE⟩ := hrel
      have nL := led_le HU.out.1
      by_cases hlt : k < ls.length
      · rcases ls_below HZ2.out hE with hd0 | ⟨g, o, rfl, hg⟩
        · rw [hd0] at hlt; exact absurd hlt (Nat.not_lt_zero _)
        obtain ⟨c0, c1, c2, c3, c4', c5'⟩ := hg k hlt
        have k0 : (0 : Int) ≤ (k : Int) := by omega
        have k1 : (k : Int) < (ls.length : Int) := by omega
        have hd := ls_drop hlt
        have hu := HU.out.2
        rw [hd] at hu
        clear hg hd
        generalize ls.getD k lr0 = x at *
        have hX := fun (h : atB x t = false) => (⟨HU.out.1, by rw [← hu, uO_out _ h]⟩ : vlR (rawL L) = true ∧ uO t L (ls.drop (k + 1)) = uO t (ledOf hs) ls)
        by_cases h4 : x.fr ≤ t
        rotate_left
        · have HX := Lib.hid (hX (by unfold atB; rw [decide_eq_false h4]; rfl))
          clear hX hu
          go_wp2_with fail
          go_roundw
          case rel => exact ⟨k + 1, L, b4, c4, by omega, by go_num, rfl, hI, hle, HX, hE⟩
          case measure => simp [intOf]; omega
        by_cases h5 : t < x.en
        rotate_left
        · have HX := Lib.hid (hX (by unfold atB; rw [decide_eq_false h5, Bool.and_false]))
          clear hX hu
          go_wp2_with fail
          go_roundw
          case rel => exact ⟨k + 1, L, b4, c4, by omega, by go_num, rfl, hI, hle, HX, hE⟩
          case measure => simp [intOf]; omega
        have hat : atB x t = true := by unfold atB; rw [decide_eq_true h4, decide_eq_true h5]; rfl
        have HGO := Lib.hid (fun (h : stB x L = true) => (by rw [← hu, uO_go _ hat h] : uO t (stL x L) (ls.drop (k + 1)) = uO t (ledOf hs) ls))
        have CSL := Lib.hid (fun W (hW : Below wr.heap.size wr W) => iSell b4 c4 (rawL L) x.ow x.te x.n x.d W (hs_below hI hW) (by omega) hle)
        have HBB := Lib.hid (bel_tr HBS.out hE)
        have HEE := Lib.hid hE
        have hsel := fun h => sel_st (L := L) (x := x) HU.out.1 h
        clear hX hu hat hI hE
        cases hs2 : selB (rawL L) x.ow x.te x.n x.d with
        | false =>
          rw [hs2] at CSL
          clear hsel hs2 HGO HEE
          go_wp2_with fail
          have HMK1 := Lib.hid (fun (W : World) (hW : Below wr.heap.size wr W) => (⟨⟨(hW.cell (p := ⟨g, o + k * 6, none⟩) (World.block_lt_of_cell? _ _ c0)).trans c0, (hW.cell (p := ⟨g, o + k * 6 + 1, none⟩) (World.block_lt_of_cell? _ _ c1)).trans c1, (hW.cell (p := ⟨g, o + k * 6 + 2, none⟩) (World.block_lt_of_cell? _ _ c2)).trans c2, (hW.cell (p := ⟨g, o + k * 6 + 3, none⟩) (World.block_lt_of_cell? _ _ c3)).trans c3⟩, hW⟩ : (W.cell? ⟨g, o + k * 6, none⟩ = some (.int .i64 x.ow) ∧ W.cell? ⟨g, o + k * 6 + 1, none⟩ = some (.int .i64 x.te) ∧ W.cell? ⟨g, o + k * 6 + 2, none⟩ = some (.int .i64 x.n) ∧ W.cell? ⟨g, o + k * 6 + 3, none⟩ = some (.int .i64 x.d)) ∧ Below wr.heap.size wr W))
          refine wp_region_held_drew (S := (fun w' => (w'.cell? ⟨g, o + k * 6, none⟩ = some (.int .i64 x.ow) ∧ w'.cell? ⟨g, o + k * 6 + 1, none⟩ = some (.int .i64 x.te) ∧ w'.cell? ⟨g, o + k * 6 + 2, none⟩ = some (.int .i64 x.n) ∧ w'.cell? ⟨g, o + k * 6 + 3, none⟩ = some (.int .i64 x.d)) ∧ Below wr.heap.size wr w')) (by kernel_rfl) ?_ (fun hHeld => ?_)
          · exact ⟨⟨c0, c1, c2, c3⟩, (Below.refl _ _).drew⟩
          refine wpAnyH_take (i := 0) (oi := ?ooa2_) (v := ?vva2_) ?hia2_ (by kernel_rfl) ?h3a2_ ?h4a2_ ?h5a2_ ?h6a2_ (by assumption) ?h8a2_
          case hia2_ => (simp only [List.getElem?_toArray, List.getElem?_cons_succ, List.getElem?_cons_zero]; rfl)
          case h3a2_ => kernel_rfl
          case h4a2_ => kernel_rfl
          case h6a2_ => (refine Or.inl ⟨by rfl, ?_⟩; intro w hSw; (try dsimp only at hSw); (go_simp <;> with_reducible rfl))
          case h5a2_ => exact fun _ _ _ h => h
          try simp only [Act.put, List.setIfInBounds_toArray, List.set_cons_zero, List.set_cons_succ]
          refine wpAnyH_take (i := 1) (oi := ?ooa3_) (v := ?vva3_) ?hia3_ (by kernel_rfl) ?h3a3_ ?h4a3_ ?h5a3_ ?h6a3_ (by assumption) ?h8a3_
          case hia3_ => (simp only [List.getElem?_toArray, List.getElem?_cons_succ, List.getElem?_cons_zero]; rfl)
          case h3a3_ => kernel_rfl
          case h4a3_ => kernel_rfl
          case h6a3_ => (refine Or.inl ⟨by rfl, ?_⟩; intro w hSw; (try dsimp only at hSw); (go_simp <;> with_reducible rfl))
          case h5a3_ => exact fun _ _ _ h => h
          try simp only [Act.put, List.setIfInBounds_toArray, List.set_cons_zero, List.set_cons_succ]
          refine wpAnyH_take (i := 2) (oi := ?ooa4_) (v := ?vva4_) ?hia4_ (by kernel_rfl) ?h3a4_ ?h4a4_ ?h5a4_ ?h6a4_ (by assumption) ?h8a4_
          case hia4_ => (simp only [List.getElem?_toArray, List.getElem?_cons_succ, List.getElem?_cons_zero]; rfl)
          case h3a4_ => kernel_rfl
          case h4a4_ => kernel_rfl
          case h6a4_ => (refine Or.inl ⟨by rfl, ?_⟩; intro w hSw; (try dsimp only at hSw); (go_simp <;> with_reducible rfl))
          case h5a4_ => exact fun _ _ _ h => h
          try simp only [Act.put, List.setIfInBounds_toArray, List.set_cons_zero, List.set_cons_succ]
          refine wpAnyH_take (i := 3) (oi := ?ooa5_) (v := ?vva5_) ?hia5_ (by kernel_rfl) ?h3a5_ ?h4a5_ ?h5a5_ ?h6a5_ (by assumption) ?h8a5_
          case hia5_ => (simp only [List.getElem?_toArray, List.getElem?_cons_succ, List.getElem?_cons_zero]; rfl)
          case h3a5_ => kernel_rfl
          case h4a5_ => kernel_rfl
          case h6a5_ => (refine Or.inl ⟨by rfl, ?_⟩; intro w hSw; (try dsimp only at hSw); (go_simp <;> with_reducible rfl))
          case h5a5_ => exact fun _ _ _ h => h
          try simp only [Act.put, List.setIfInBounds_toArray, List.set_cons_zero, List.set_cons_succ]
          refine wpAnyH_take (i := 4) (oi := ?ooa6_) (v := ?vva6_) ?hia6_ (by kernel_rfl) ?h3a6_ ?h4a6_ ?h5a6_ ?h6a6_ (by assumption) ?h8a6_
          case hia6_ => (simp only [List.getElem?_toArray, List.getElem?_cons_succ, List.getElem?_cons_zero]; rfl)
          case h3a6_ => kernel_rfl
          case h4a6_ => kernel_rfl
          case h6a6_ => (refine Or.inl ⟨by rfl, ?_⟩; intro w hSw; (try dsimp only at hSw); (go_simp <;> with_reducible rfl))
          case h5a6_ => exact fun _ _ _ h => h
          try simp only [Act.put, List.setIfInBounds_toArray, List.set_cons_zero, List.set_cons_succ]
          refine wpAnyH_take (i := 5) (oi := ?ooa7_) (v := ?vva7_) ?hia7_ (by kernel_rfl) ?h3a7_ ?h4a7_ ?h5a7_ ?h6a7_ (by assumption) ?h8a7_
          case hia7_ => (simp only [List.getElem?_toArray, List.getElem?_cons_succ, List.getElem?_cons_zero]; rfl)
          case h3a7_ => kernel_rfl
          case h4a7_ => kernel_rfl
          case h6a7_ => (refine Or.inl ⟨by rfl, ?_⟩; intro w hSw; (try dsimp only at hSw); (go_simp <;> with_reducible rfl))
          case h5a7_ => exact fun _ _ _ h => h
          try simp only [Act.put, List.setIfInBounds_toArray, List.set_cons_zero, List.set_cons_succ]
          refine wpAnyH_take (i := 6) (oi := ?ooa8_) (v := ?vva8_) ?hia8_ (by kernel_rfl) ?h3a8_ ?h4a8_ ?h5a8_ ?h6a8_ (by assumption) ?h8a8_
          case hia8_ => (simp only [List.getElem?_toArray, List.getElem?_cons_succ, List.getElem?_cons_zero]; rfl)
          case h3a8_ => kernel_rfl
          case h4a8_ => kernel_rfl
          case h6a8_ => (refine Or.inl ⟨by rfl, ?_⟩; intro w hSw; (try dsimp only at hSw); (go_simp <;> with_reducible rfl))
          case h5a8_ => exact fun _ _ _ h => h
          try simp only [Act.put, List.setIfInBounds_toArray, List.set_cons_zero, List.set_cons_succ]
          refine wpAnyH_take (i := 7) (oi := ?ooa9_) (v := ?vva9_) ?hia9_ (by kernel_rfl) ?h3a9_ ?h4a9_ ?h5a9_ ?h6a9_ (by assumption) ?h8a9_
          case hia9_ => (simp only [List.getElem?_toArray, List.getElem?_cons_succ, List.getElem?_cons_zero]; rfl)
          case h3a9_ => kernel_rfl
          case h4a9_ => kernel_rfl
          case h6a9_ => (refine Or.inl ⟨by rfl, ?_⟩; intro w hSw; (try dsimp only at hSw); (go_simp <;> with_reducible rfl))
          case h5a9_ => exact fun _ _ _ h => h
          try simp only [Act.put, List.setIfInBounds_toArray, List.set_cons_zero, List.set_cons_succ]
          refine wpAnyH_take (i := 8) (oi := ?ooa10_) (v := ?vva10_) ?hia10_ (by kernel_rfl) ?h3a10_ ?h4a10_ ?h5a10_ ?h6a10_ (by assumption) ?h8a10_
          case hia10_ => (simp only [List.getElem?_toArray, List.getElem?_cons_succ, List.getElem?_cons_zero]; rfl)
          case h3a10_ => kernel_rfl
          case h4a10_ => kernel_rfl
          case h6a10_ => (refine Or.inl ⟨by rfl, ?_⟩; intro w hSw; (try dsimp only at hSw); (go_simp <;> with_reducible rfl))
          case h5a10_ => exact fun _ _ _ h => h
          try simp only [Act.put, List.setIfInBounds_toArray, List.set_cons_zero, List.set_cons_succ]
          refine wpAnyH_take (i := 9) (oi := ?ooa11_) (v := ?vva11_) ?hia11_ (by kernel_rfl) ?h3a11_ ?h4a11_ ?h5a11_ ?h6a11_ (by assumption) ?h8a11_
          case hia11_ => (simp only [List.getElem?_toArray, List.getElem?_cons_succ, List.getElem?_cons_zero]; rfl)
          case h3a11_ => kernel_rfl
          case h4a11_ => kernel_rfl
          case h6a11_ => (refine Or.inl ⟨by rfl, ?_⟩; intro w hSw; (try dsimp only at hSw); (go_simp <;> with_reducible rfl))
          case h5a11_ => exact fun _ _ _ h => h
          try simp only [Act.put, List.setIfInBounds_toArray, List.set_cons_zero, List.set_cons_succ]
          refine wpAnyH_take (i := 10) (oi := ?ooa12_) (v := ?vva12_) ?hia12_ (by kernel_rfl) ?h3a12_ ?h4a12_ ?h5a12_ ?h6a12_ (by assumption) ?h8a12_
          case hia12_ => (simp only [List.getElem?_toArray, List.getElem?_cons_succ, List.getElem?_cons_zero]; rfl)
          case h3a12_ => kernel_rfl
          case h4a12_ => kernel_rfl
          case h6a12_ => (refine Or.inl ⟨by rfl, ?_⟩; intro w hSw; (try dsimp only at hSw); (go_simp <;> with_reducible rfl))
          case h5a12_ => exact fun _ _ _ h => h
          try simp only [Act.put, List.setIfInBounds_toArray, List.set_cons_zero, List.set_cons_succ]
          refine wpAnyH_take (i := 11) (oi := ?ooa13_) (v := ?vva13_) ?hia13_ (by kernel_rfl) ?h3a13_ ?h4a13_ ?h5a13_ ?h6a13_ (by assumption) ?h8a13_
          case hia13_ => (simp only [List.getElem?_toArray, List.getElem?_cons_succ, List.getElem?_cons_zero]; rfl)
          case h3a13_ => kernel_rfl
          case h4a13_ => kernel_rfl
          case h6a13_ => (refine Or.inl ⟨by rfl, ?_⟩; intro w hSw; (try dsimp only at hSw); (go_simp <;> with_reducible rfl))
          case h5a13_ => exact fun _ _ _ h => h
          try simp only [Act.put, List.setIfInBounds_toArray, List.set_cons_zero, List.set_cons_succ]
          refine wpAnyH_take (i := 12) (oi := ?ooa14_) (v := ?vva14_) ?hia14_ (by kernel_rfl) ?h3a14_ ?h4a14_ ?h5a14_ ?h6a14_ (by assumption) ?h8a14_
          case hia14_ => (simp only [List.getElem?_toArray, List.getElem?_cons_succ, List.getElem?_cons_zero]; rfl)
          case h3a14_ => kernel_rfl
          case h4a14_ => kernel_rfl
          case h6a14_ => (refine Or.inl ⟨by rfl, ?_⟩; intro w hSw; (try dsimp only at hSw); (go_simp <;> with_reducible rfl))
          case h5a14_ => exact fun _ _ _ h => h
          try simp only [Act.put, List.setIfInBounds_toArray, List.set_cons_zero, List.set_cons_succ]
          refine wpAnyH_take (i := 13) (oi := ?ooa15_) (v := ?vva15_) ?hia15_ (by kernel_rfl) ?h3a15_ ?h4a15_ ?h5a15_ ?h6a15_ (by assumption) ?h8a15_
          case hia15_ => (simp only [List.getElem?_toArray, List.getElem?_cons_succ, List.getElem?_cons_zero]; rfl)
          case h3a15_ => kernel_rfl
          case h4a15_ => kernel_rfl
          case h6a15_ => (refine Or.inl ⟨by rfl, ?_⟩; intro w hSw; (try dsimp only at hSw); (go_simp <;> with_reducible rfl))
          case h5a15_ => exact fun _ _ _ h => h
          try simp only [Act.put, List.setIfInBounds_toArray, List.set_cons_zero, List.set_cons_succ]
          refine wpAnyH_take (i := 14) (oi := ?ooa16_) (v := ?vva16_) ?hia16_ (by kernel_rfl) ?h3a16_ ?h4a16_ ?h5a16_ ?h6a16_ (by assumption) ?h8a16_
          case hia16_ => (simp only [List.getElem?_toArray, List.getElem?_cons_succ, List.getElem?_cons_zero]; rfl)
          case h3a16_ => kernel_rfl
          case h4a16_ => kernel_rfl
          case h6a16_ => (refine Or.inl ⟨by rfl, ?_⟩; intro w hSw; (try dsimp only at hSw); (go_simp <;> with_reducible rfl))
          case h5a16_ => exact fun _ _ _ h => h
          try simp only [Act.put, List.setIfInBounds_toArray, List.set_cons_zero, List.set_cons_succ]
          refine wpAnyH_take (i := 15) (oi := ?ooa17_) (v := ?vva17_) ?hia17_ (by kernel_rfl) ?h3a17_ ?h4a17_ ?h5a17_ ?h6a17_ (by assumption) ?h8a17_
          case hia17_ => (simp only [List.getElem?_toArray, List.getElem?_cons_succ, List.getElem?_cons_zero]; rfl)
          case h3a17_ => kernel_rfl
          case h4a17_ => kernel_rfl
          case h6a17_ => (refine Or.inl ⟨by rfl, ?_⟩; intro w hSw; (try dsimp only at hSw); (go_simp <;> with_reducible rfl))
          case h5a17_ => exact fun _ _ _ h => h
          try simp only [Act.put, List.setIfInBounds_toArray, List.set_cons_zero, List.set_cons_succ]
          refine wpAnyH_ready (rs := [16]) (by kernel_rfl) (by simp) (AllReadyH.cons (o := ?ooa18_q0) ?hia18_q0 (fun K hK => ?hka18_q0) AllReadyH.nil)
          case hia18_q0 => (simp only [List.getElem?_toArray, List.getElem?_cons_succ, List.getElem?_cons_zero]; rfl)
          case hka18_q0 =>
            (rw [if_pos (by rfl)]; go_simp; refine (CSL.out _ hHeld.2).mono ?_; rintro e w6 ⟨v, rfl, m1, m2, hb⟩; obtain rfl := m1 rfl; go_wp2_with fail; refine hK.out _ _ (HMK1.out _ (bel_tr hHeld.2 hb)) (fun hHeld => ?_); clear hK K)
            try simp only [Act.put, List.setIfInBounds_toArray, List.set_cons_zero, List.set_cons_succ]
            refine wpAnyH_take (i := 17) (oi := ?ooa19_) (v := ?vva19_) ?hia19_ (by kernel_rfl) ?h3a19_ ?h4a19_ ?h5a19_ ?h6a19_ (by assumption) ?h8a19_
            case hia19_ => (simp only [List.getElem?_toArray, List.getElem?_cons_succ, List.getElem?_cons_zero]; rfl)
            case h3a19_ => kernel_rfl
            case h4a19_ => kernel_rfl
            case h6a19_ => (refine Or.inl ⟨by rfl, ?_⟩; intro w hSw; (try dsimp only at hSw); (go_simp <;> with_reducible rfl))
            case h5a19_ => exact fun _ _ _ h => h
            try simp only [Act.put, List.setIfInBounds_toArray, List.set_cons_zero, List.set_cons_succ]
            refine wpAnyH_take (i := 18) (oi := ?ooa20_) (v := ?vva20_) ?hia20_ (by kernel_rfl) ?h3a20_ ?h4a20_ ?h5a20_ ?h6a20_ (by assumption) ?h8a20_
            case hia20_ => (simp only [List.getElem?_toArray, List.getElem?_cons_succ, List.getElem?_cons_zero]; rfl)
            case h3a20_ => kernel_rfl
            case h4a20_ => kernel_rfl
            case h6a20_ => (refine Or.inl ⟨by rfl, ?_⟩; intro w hSw; (try dsimp only at hSw); (go_simp <;> with_reducible rfl))
            case h5a20_ => exact fun _ _ _ h => h
            try simp only [Act.put, List.setIfInBounds_toArray, List.set_cons_zero, List.set_cons_succ]
            refine wpAnyH_take (i := 19) (oi := ?ooa21_) (v := ?vva21_) ?hia21_ (by kernel_rfl) ?h3a21_ ?h4a21_ ?h5a21_ ?h6a21_ (by assumption) ?h8a21_
            case hia21_ => (simp only [List.getElem?_toArray, List.getElem?_cons_succ, List.getElem?_cons_zero]; rfl)
            case h3a21_ => kernel_rfl
            case h4a21_ => kernel_rfl
            case h6a21_ => (refine Or.inl ⟨by rfl, ?_⟩; intro w hSw; (try dsimp only at hSw); (go_simp <;> with_reducible rfl))
            case h5a21_ => exact fun _ _ _ h => h
            try simp only [Act.put, List.setIfInBounds_toArray, List.set_cons_zero, List.set_cons_succ]
            refine wpAnyH_take (i := 20) (oi := ?ooa22_) (v := ?vva22_) ?hia22_ (by kernel_rfl) ?h3a22_ ?h4a22_ ?h5a22_ ?h6a22_ (by assumption) ?h8a22_
            case hia22_ => (simp only [List.getElem?_toArray, List.getElem?_cons_succ, List.getElem?_cons_zero]; rfl)
            case h3a22_ => kernel_rfl
            case h4a22_ => kernel_rfl
            case h6a22_ => (refine Or.inl ⟨by rfl, ?_⟩; intro w hSw; (try dsimp only at hSw); (go_simp <;> with_reducible rfl))
            case h5a22_ => exact fun _ _ _ h => h
            try simp only [Act.put, List.setIfInBounds_toArray, List.set_cons_zero, List.set_cons_succ]
            refine wpAnyH_take (i := 21) (oi := ?ooa23_) (v := ?vva23_) ?hia23_ (by kernel_rfl) ?h3a23_ ?h4a23_ ?h5a23_ ?h6a23_ (by assumption) ?h8a23_
            case hia23_ => (simp only [List.getElem?_toArray, List.getElem?_cons_succ, List.getElem?_cons_zero]; rfl)
            case h3a23_ => kernel_rfl
            case h4a23_ => kernel_rfl
            case h6a23_ => (refine Or.inl ⟨by rfl, ?_⟩; intro w hSw; (try dsimp only at hSw); (go_simp <;> with_reducible rfl))
            case h5a23_ => exact fun _ _ _ h => h
            try simp only [Act.put, List.setIfInBounds_toArray, List.set_cons_zero, List.set_cons_succ]
            refine wpAnyH_done (by kernel_rfl) ?_ _
            clear HMK1
            have B6 := bel_tr HBB.out hHeld.2
            clear hHeld
            go_wp2_with fail
            go_ret
            exact ⟨rfl, B6⟩
        | true =>
          have HST := Lib.hid (hsel hs2)
          rw [hs2] at CSL
          clear hsel hs2 HBB
          go_wp2_with fail
          have HMK24 := Lib.hid (fun (W : World) (hW : Below wr.heap.size wr W) => (⟨⟨(hW.cell (p := ⟨g, o + k * 6, none⟩) (World.block_lt_of_cell? _ _ c0)).trans c0, (hW.cell (p := ⟨g, o + k * 6 + 1, none⟩) (World.block_lt_of_cell? _ _ c1)).trans c1, (hW.cell (p := ⟨g, o + k * 6 + 2, none⟩) (World.block_lt_of_cell? _ _ c2)).trans c2, (hW.cell (p := ⟨g, o + k * 6 + 3, none⟩) (World.block_lt_of_cell? _ _ c3)).trans c3⟩, hW⟩ : (W.cell? ⟨g, o + k * 6, none⟩ = some (.int .i64 x.ow) ∧ W.cell? ⟨g, o + k * 6 + 1, none⟩ = some (.int .i64 x.te) ∧ W.cell? ⟨g, o + k * 6 + 2, none⟩ = some (.int .i64 x.n) ∧ W.cell? ⟨g, o + k * 6 + 3, none⟩ = some (.int .i64 x.d)) ∧ Below wr.heap.size wr W))
          refine wp_region_held_drew (S := (fun w' => (w'.cell? ⟨g, o + k * 6, none⟩ = some (.int .i64 x.ow) ∧ w'.cell? ⟨g, o + k * 6 + 1, none⟩ = some (.int .i64 x.te) ∧ w'.cell? ⟨g, o + k * 6 + 2, none⟩ = some (.int .i64 x.n) ∧ w'.cell? ⟨g, o + k * 6 + 3, none⟩ = some (.int .i64 x.d)) ∧ Below wr.heap.size wr w')) (by kernel_rfl) ?_ (fun hHeld => ?_)
          · exact ⟨⟨c0, c1, c2, c3⟩, (Below.refl _ _).drew⟩
          refine wpAnyH_take (i := 0) (oi := ?ooa25_) (v := ?vva25_) ?hia25_ (by kernel_rfl) ?h3a25_ ?h4a25_ ?h5a25_ ?h6a25_ (by assumption) ?h8a25_
          case hia25_ => (simp only [List.getElem?_toArray, List.getElem?_cons_succ, List.getElem?_cons_zero]; rfl)
          case h3a25_ => kernel_rfl
          case h4a25_ => kernel_rfl
          case h6a25_ => (refine Or.inl ⟨by rfl, ?_⟩; intro w hSw; (try dsimp only at hSw); (go_simp <;> with_reducible rfl))
          case h5a25_ => exact fun _ _ _ h => h
          try simp only [Act.put, List.setIfInBounds_toArray, List.set_cons_zero, List.set_cons_succ]
          refine wpAnyH_take (i := 1) (oi := ?ooa26_) (v := ?vva26_) ?hia26_ (by kernel_rfl) ?h3a26_ ?h4a26_ ?h5a26_ ?h6a26_ (by assumption) ?h8a26_
          case hia26_ => (simp only [List.getElem?_toArray, List.getElem?_cons_succ, List.getElem?_cons_zero]; rfl)
          case h3a26_ => kernel_rfl
          case h4a26_ => kernel_rfl
          case h6a26_ => (refine Or.inl ⟨by rfl, ?_⟩; intro w hSw; (try dsimp only at hSw); (go_simp <;> with_reducible rfl))
          case h5a26_ => exact fun _ _ _ h => h
          try simp only [Act.put, List.setIfInBounds_toArray, List.set_cons_zero, List.set_cons_succ]
          refine wpAnyH_take (i := 2) (oi := ?ooa27_) (v := ?vva27_) ?hia27_ (by kernel_rfl) ?h3a27_ ?h4a27_ ?h5a27_ ?h6a27_ (by assumption) ?h8a27_
          case hia27_ => (simp only [List.getElem?_toArray, List.getElem?_cons_succ, List.getElem?_cons_zero]; rfl)
          case h3a27_ => kernel_rfl
          case h4a27_ => kernel_rfl
          case h6a27_ => (refine Or.inl ⟨by rfl, ?_⟩; intro w hSw; (try dsimp only at hSw); (go_simp <;> with_reducible rfl))
          case h5a27_ => exact fun _ _ _ h => h
          try simp only [Act.put, List.setIfInBounds_toArray, List.set_cons_zero, List.set_cons_succ]
          refine wpAnyH_take (i := 3) (oi := ?ooa28_) (v := ?vva28_) ?hia28_ (by kernel_rfl) ?h3a28_ ?h4a28_ ?h5a28_ ?h6a28_ (by assumption) ?h8a28_
          case hia28_ => (simp only [List.getElem?_toArray, List.getElem?_cons_succ, List.getElem?_cons_zero]; rfl)
          case h3a28_ => kernel_rfl
          case h4a28_ => kernel_rfl
          case h6a28_ => (refine Or.inl ⟨by rfl, ?_⟩; intro w hSw; (try dsimp only at hSw); (go_simp <;> with_reducible rfl))
          case h5a28_ => exact fun _ _ _ h => h
          try simp only [Act.put, List.setIfInBounds_toArray, List.set_cons_zero, List.set_cons_succ]
          refine wpAnyH_take (i := 4) (oi := ?ooa29_) (v := ?vva29_) ?hia29_ (by kernel_rfl) ?h3a29_ ?h4a29_ ?h5a29_ ?h6a29_ (by assumption) ?h8a29_
          case hia29_ => (simp only [List.getElem?_toArray, List.getElem?_cons_succ, List.getElem?_cons_zero]; rfl)
          case h3a29_ => kernel_rfl
          case h4a29_ => kernel_rfl
          case h6a29_ => (refine Or.inl ⟨by rfl, ?_⟩; intro w hSw; (try dsimp only at hSw); (go_simp <;> with_reducible rfl))
          case h5a29_ => exact fun _ _ _ h => h
          try simp only [Act.put, List.setIfInBounds_toArray, List.set_cons_zero, List.set_cons_succ]
          refine wpAnyH_take (i := 5) (oi := ?ooa30_) (v := ?vva30_) ?hia30_ (by kernel_rfl) ?h3a30_ ?h4a30_ ?h5a30_ ?h6a30_ (by assumption) ?h8a30_
          case hia30_ => (simp only [List.getElem?_toArray, List.getElem?_cons_succ, List.getElem?_cons_zero]; rfl)
          case h3a30_ => kernel_rfl
          case h4a30_ => kernel_rfl
          case h6a30_ => (refine Or.inl ⟨by rfl, ?_⟩; intro w hSw; (try dsimp only at hSw); (go_simp <;> with_reducible rfl))
          case h5a30_ => exact fun _ _ _ h => h
          try simp only [Act.put, List.setIfInBounds_toArray, List.set_cons_zero, List.set_cons_succ]
          refine wpAnyH_take (i := 6) (oi := ?ooa31_) (v := ?vva31_) ?hia31_ (by kernel_rfl) ?h3a31_ ?h4a31_ ?h5a31_ ?h6a31_ (by assumption) ?h8a31_
          case hia31_ => (simp only [List.getElem?_toArray, List.getElem?_cons_succ, List.getElem?_cons_zero]; rfl)
          case h3a31_ => kernel_rfl
          case h4a31_ => kernel_rfl
          case h6a31_ => (refine Or.inl ⟨by rfl, ?_⟩; intro w hSw; (try dsimp only at hSw); (go_simp <;> with_reducible rfl))
          case h5a31_ => exact fun _ _ _ h => h
          try simp only [Act.put, List.setIfInBounds_toArray, List.set_cons_zero, List.set_cons_succ]
          refine wpAnyH_take (i := 7) (oi := ?ooa32_) (v := ?vva32_) ?hia32_ (by kernel_rfl) ?h3a32_ ?h4a32_ ?h5a32_ ?h6a32_ (by assumption) ?h8a32_
          case hia32_ => (simp only [List.getElem?_toArray, List.getElem?_cons_succ, List.getElem?_cons_zero]; rfl)
          case h3a32_ => kernel_rfl
          case h4a32_ => kernel_rfl
          case h6a32_ => (refine Or.inl ⟨by rfl, ?_⟩; intro w hSw; (try dsimp only at hSw); (go_simp <;> with_reducible rfl))
          case h5a32_ => exact fun _ _ _ h => h
          try simp only [Act.put, List.setIfInBounds_toArray, List.set_cons_zero, List.set_cons_succ]
          refine wpAnyH_take (i := 8) (oi := ?ooa33_) (v := ?vva33_) ?hia33_ (by kernel_rfl) ?h3a33_ ?h4a33_ ?h5a33_ ?h6a33_ (by assumption) ?h8a33_
          case hia33_ => (simp only [List.getElem?_toArray, List.getElem?_cons_succ, List.getElem?_cons_zero]; rfl)
          case h3a33_ => kernel_rfl
          case h4a33_ => kernel_rfl
          case h6a33_ => (refine Or.inl ⟨by rfl, ?_⟩; intro w hSw; (try dsimp only at hSw); (go_simp <;> with_reducible rfl))
          case h5a33_ => exact fun _ _ _ h => h
          try simp only [Act.put, List.setIfInBounds_toArray, List.set_cons_zero, List.set_cons_succ]
          refine wpAnyH_take (i := 9) (oi := ?ooa34_) (v := ?vva34_) ?hia34_ (by kernel_rfl) ?h3a34_ ?h4a34_ ?h5a34_ ?h6a34_ (by assumption) ?h8a34_
          case hia34_ => (simp only [List.getElem?_toArray, List.getElem?_cons_succ, List.getElem?_cons_zero]; rfl)
          case h3a34_ => kernel_rfl
          case h4a34_ => kernel_rfl
          case h6a34_ => (refine Or.inl ⟨by rfl, ?_⟩; intro w hSw; (try dsimp only at hSw); (go_simp <;> with_reducible rfl))
          case h5a34_ => exact fun _ _ _ h => h
          try simp only [Act.put, List.setIfInBounds_toArray, List.set_cons_zero, List.set_cons_succ]
          refine wpAnyH_take (i := 10) (oi := ?ooa35_) (v := ?vva35_) ?hia35_ (by kernel_rfl) ?h3a35_ ?h4a35_ ?h5a35_ ?h6a35_ (by assumption) ?h8a35_
          case hia35_ => (simp only [List.getElem?_toArray, List.getElem?_cons_succ, List.getElem?_cons_zero]; rfl)
          case h3a35_ => kernel_rfl
          case h4a35_ => kernel_rfl
          case h6a35_ => (refine Or.inl ⟨by rfl, ?_⟩; intro w hSw; (try dsimp only at hSw); (go_simp <;> with_reducible rfl))
          case h5a35_ => exact fun _ _ _ h => h
          try simp only [Act.put, List.setIfInBounds_toArray, List.set_cons_zero, List.set_cons_succ]
          refine wpAnyH_take (i := 11) (oi := ?ooa36_) (v := ?vva36_) ?hia36_ (by kernel_rfl) ?h3a36_ ?h4a36_ ?h5a36_ ?h6a36_ (by assumption) ?h8a36_
          case hia36_ => (simp only [List.getElem?_toArray, List.getElem?_cons_succ, List.getElem?_cons_zero]; rfl)
          case h3a36_ => kernel_rfl
          case h4a36_ => kernel_rfl
          case h6a36_ => (refine Or.inl ⟨by rfl, ?_⟩; intro w hSw; (try dsimp only at hSw); (go_simp <;> with_reducible rfl))
          case h5a36_ => exact fun _ _ _ h => h
          try simp only [Act.put, List.setIfInBounds_toArray, List.set_cons_zero, List.set_cons_succ]
          refine wpAnyH_take (i := 12) (oi := ?ooa37_) (v := ?vva37_) ?hia37_ (by kernel_rfl) ?h3a37_ ?h4a37_ ?h5a37_ ?h6a37_ (by assumption) ?h8a37_
          case hia37_ => (simp only [List.getElem?_toArray, List.getElem?_cons_succ, List.getElem?_cons_zero]; rfl)
          case h3a37_ => kernel_rfl
          case h4a37_ => kernel_rfl
          case h6a37_ => (refine Or.inl ⟨by rfl, ?_⟩; intro w hSw; (try dsimp only at hSw); (go_simp <;> with_reducible rfl))
          case h5a37_ => exact fun _ _ _ h => h
          try simp only [Act.put, List.setIfInBounds_toArray, List.set_cons_zero, List.set_cons_succ]
          refine wpAnyH_take (i := 13) (oi := ?ooa38_) (v := ?vva38_) ?hia38_ (by kernel_rfl) ?h3a38_ ?h4a38_ ?h5a38_ ?h6a38_ (by assumption) ?h8a38_
          case hia38_ => (simp only [List.getElem?_toArray, List.getElem?_cons_succ, List.getElem?_cons_zero]; rfl)
          case h3a38_ => kernel_rfl
          case h4a38_ => kernel_rfl
          case h6a38_ => (refine Or.inl ⟨by rfl, ?_⟩; intro w hSw; (try dsimp only at hSw); (go_simp <;> with_reducible rfl))
          case h5a38_ => exact fun _ _ _ h => h
          try simp only [Act.put, List.setIfInBounds_toArray, List.set_cons_zero, List.set_cons_succ]
          refine wpAnyH_take (i := 14) (oi := ?ooa39_) (v := ?vva39_) ?hia39_ (by kernel_rfl) ?h3a39_ ?h4a39_ ?h5a39_ ?h6a39_ (by assumption) ?h8a39_
          case hia39_ => (simp only [List.getElem?_toArray, List.getElem?_cons_succ, List.getElem?_cons_zero]; rfl)
          case h3a39_ => kernel_rfl
          case h4a39_ => kernel_rfl
          case h6a39_ => (refine Or.inl ⟨by rfl, ?_⟩; intro w hSw; (try dsimp only at hSw); (go_simp <;> with_reducible rfl))
          case h5a39_ => exact fun _ _ _ h => h
          try simp only [Act.put, List.setIfInBounds_toArray, List.set_cons_zero, List.set_cons_succ]
          refine wpAnyH_take (i := 15) (oi := ?ooa40_) (v := ?vva40_) ?hia40_ (by kernel_rfl) ?h3a40_ ?h4a40_ ?h5a40_ ?h6a40_ (by assumption) ?h8a40_
          case hia40_ => (simp only [List.getElem?_toArray, List.getElem?_cons_succ, List.getElem?_cons_zero]; rfl)
          case h3a40_ => kernel_rfl
          case h4a40_ => kernel_rfl
          case h6a40_ => (refine Or.inl ⟨by rfl, ?_⟩; intro w hSw; (try dsimp only at hSw); (go_simp <;> with_reducible rfl))
          case h5a40_ => exact fun _ _ _ h => h
          try simp only [Act.put, List.setIfInBounds_toArray, List.set_cons_zero, List.set_cons_succ]
          refine wpAnyH_ready (rs := [16]) (by kernel_rfl) (by simp) (AllReadyH.cons (o := ?ooa41_q0) ?hia41_q0 (fun K hK => ?hka41_q0) AllReadyH.nil)
          case hia41_q0 => (simp only [List.getElem?_toArray, List.getElem?_cons_succ, List.getElem?_cons_zero]; rfl)
          case hka41_q0 =>
            (rw [if_pos (by rfl)]; go_simp; refine (CSL.out _ hHeld.2).mono ?_; rintro e w6 ⟨v, rfl, m1, m2, hb⟩; obtain ⟨b6, c6, rfl, I6, hle6⟩ := own_hs2 (m2 rfl); go_wp2_with fail; refine hK.out _ _ (HMK24.out _ (bel_tr hHeld.2 hb)) (fun hHeld => ?_); clear hK K)
            try simp only [Act.put, List.setIfInBounds_toArray, List.set_cons_zero, List.set_cons_succ]
            refine wpAnyH_take (i := 17) (oi := ?ooa42_) (v := ?vva42_) ?hia42_ (by kernel_rfl) ?h3a42_ ?h4a42_ ?h5a42_ ?h6a42_ (by assumption) ?h8a42_
            case hia42_ => (simp only [List.getElem?_toArray, List.getElem?_cons_succ, List.getElem?_cons_zero]; rfl)
            case h3a42_ => kernel_rfl
            case h4a42_ => kernel_rfl
            case h6a42_ => (refine Or.inl ⟨by rfl, ?_⟩; intro w hSw; (try dsimp only at hSw); (go_simp <;> with_reducible rfl))
            case h5a42_ => exact fun _ _ _ h => h
            try simp only [Act.put, List.setIfInBounds_toArray, List.set_cons_zero, List.set_cons_succ]
            refine wpAnyH_take (i := 18) (oi := ?ooa43_) (v := ?vva43_) ?hia43_ (by kernel_rfl) ?h3a43_ ?h4a43_ ?h5a43_ ?h6a43_ (by assumption) ?h8a43_
            case hia43_ => (simp only [List.getElem?_toArray, List.getElem?_cons_succ, List.getElem?_cons_zero]; rfl)
            case h3a43_ => kernel_rfl
            case h4a43_ => kernel_rfl
            case h6a43_ => (refine Or.inl ⟨by rfl, ?_⟩; intro w hSw; (try dsimp only at hSw); (go_simp <;> with_reducible rfl))
            case h5a43_ => exact fun _ _ _ h => h
            try simp only [Act.put, List.setIfInBounds_toArray, List.set_cons_zero, List.set_cons_succ]
            refine wpAnyH_take (i := 19) (oi := ?ooa44_) (v := ?vva44_) ?hia44_ (by kernel_rfl) ?h3a44_ ?h4a44_ ?h5a44_ ?h6a44_ (by assumption) ?h8a44_
            case hia44_ => (simp only [List.getElem?_toArray, List.getElem?_cons_succ, List.getElem?_cons_zero]; rfl)
            case h3a44_ => kernel_rfl
            case h4a44_ => kernel_rfl
            case h6a44_ => (refine Or.inl ⟨by rfl, ?_⟩; intro w hSw; (try dsimp only at hSw); (go_simp <;> with_reducible rfl))
            case h5a44_ => exact fun _ _ _ h => h
            try simp only [Act.put, List.setIfInBounds_toArray, List.set_cons_zero, List.set_cons_succ]
            refine wpAnyH_take (i := 20) (oi := ?ooa45_) (v := ?vva45_) ?hia45_ (by kernel_rfl) ?h3a45_ ?h4a45_ ?h5a45_ ?h6a45_ (by assumption) ?h8a45_
            case hia45_ => (simp only [List.getElem?_toArray, List.getElem?_cons_succ, List.getElem?_cons_zero]; rfl)
            case h3a45_ => kernel_rfl
            case h4a45_ => kernel_rfl
            case h6a45_ => (refine Or.inl ⟨by rfl, ?_⟩; intro w hSw; (try dsimp only at hSw); (go_simp <;> with_reducible rfl))
            case h5a45_ => exact fun _ _ _ h => h
            try simp only [Act.put, List.setIfInBounds_toArray, List.set_cons_zero, List.set_cons_succ]
            refine wpAnyH_take (i := 21) (oi := ?ooa46_) (v := ?vva46_) ?hia46_ (by kernel_rfl) ?h3a46_ ?h4a46_ ?h5a46_ ?h6a46_ (by assumption) ?h8a46_
            case hia46_ => (simp only [List.getElem?_toArray, List.getElem?_cons_succ, List.getElem?_cons_zero]; rfl)
            case h3a46_ => kernel_rfl
            case h4a46_ => kernel_rfl
            case h6a46_ => (refine Or.inl ⟨by rfl, ?_⟩; intro w hSw; (try dsimp only at hSw); (go_simp <;> with_reducible rfl))
            case h5a46_ => exact fun _ _ _ h => h
            try simp only [Act.put, List.setIfInBounds_toArray, List.set_cons_zero, List.set_cons_succ]
            refine wpAnyH_done (by kernel_rfl) ?_ _
            clear HMK24
            have E6 := bel_tr HEE.out hHeld.2
            clear hHeld m1 m2
            go_wp2_with fail
            go_roundw
            case rel => exact ⟨k + 1, stL x L, b6, c6, by omega, by go_num, by rw [← HST.out.2.1], by rw [← HST.out.2.1]; exact I6, by rw [← HST.out.2.1]; exact hle6, ⟨HST.out.2.2, HGO.out HST.out.1⟩, E6⟩
            case measure => simp [intOf]; omega
      · obtain rfl : k = ls.length := by omega
        have hu := HU.out.2
        rw [List.drop_length, uO_nil, HUS.out] at hu
        injection hu with hu
        subst hu
        have hRR : rawL (usL hs ls t) = R := HR.out
        rw [hRR] at hI hle ⊢
        have B := bel_tr HBS.out hE
        have I9 := hs_below I2S.out hE
        clear hRR hE HU
        go_wp2_with fail
        refine (eqHd b4 b2 _ _ R _ hI I9 nR).mono ?_
        rintro e w9 ⟨rfl, C⟩
        replace B := bel_tr B C
        clear C
        go_wp2_with fail
        go_ret
        exact ⟨rfl, B⟩

set_option maxRecDepth 100000 in
theorem lifted (os : Os) (started : os.Started) (H : Type) (enc : TypeId × Value → H) :
    ReturnsInHanded {} Try.checked os 6 .any (Rows.fnUsersAtSellSpec.pre6 enc Try.prog Try.f6 Rows.fnUsersAtSellRow.domain false) (Rows.fnUsersAtSellSpec.post enc Try.prog Try.f6 false true false false) := by
  refine returnsInHanded_of_change (C := Try.checked) own started (by kernel_rfl) Try.func6
    (ChangeSpec.witness6 (enc := enc) (C := Try.checked) false ⟨#[], #[.slice none 0 0], []⟩ 8 (by kernel_rfl) (by kernel_rfl) (by kernel_rfl) (by kernel_rfl)) ?_
  intro W base args ds gs before hval0 hW hcnd _
  have hval : ∀ (j : Nat) t v, Try.f6.params[j]? = some t → args[j]? = some v → Value.okWide Try.prog W .any base t v := hval0
  have hW' := hW
  obtain ⟨p, q, hA0, hV, rfl, hfz, hnd⟩ := hW
  have hA : DataW.TrodAll enc Try.prog W 0 (fun _ => true) true Try.f6.params.toList args.toList ds p := hA0
  rw [Try.params6] at hA hval
  obtain ⟨v0, vs0, e0, es0, p0, q0, hargs, rfl, rfl, h0, r0⟩ := trodAll_cons hA
  obtain ⟨rfl, rfl, rfl⟩ := trodAll_nil r0
  obtain rfl : args = #[v0] := by cases args; simp_all
  obtain ⟨rfl, rfl⟩ := trodVars_none hV
  have k0 := h0
  have lt0 : ∀ x ∈ p0, x.block < W.heap.size := by obtain ⟨m, hm⟩ := k0; exact DataW.trod_lt m _ _ _ hm
  obtain ⟨a0, len0, cap0, rfl⟩ := okWide_slice Try.underlying37 (hval 0 37 v0 rfl rfl)
  obtain ⟨z0, w0⟩ : ∃ zs, IsRow .u8 W a0 len0 cap0 zs := by
    obtain ⟨fuel, hf⟩ := h0
    rcases open_ints Try.underlying37 Try.underlying5 (by kernel_rfl) hf with ⟨hcs, _⟩ | ⟨x, l, c, zs, hcs, _, hl, hm, hz, _, hcell, hwz⟩
    · simp [Value.cells] at hcs
      obtain ⟨rfl, rfl, rfl⟩ := hcs
      exact ⟨[], .inl ⟨rfl, rfl, rfl, rfl⟩⟩
    · simp [Value.cells] at hcs
      obtain ⟨rfl, rfl, rfl⟩ := hcs
      exact ⟨zs, .inr ⟨_, rfl, hl, hm, by simpa using hz, hcell, hwz⟩⟩
  clear hA0 hval0
  refine (walk a0 len0 cap0 z0 W w0).mono fun e W' ⟨he, bel⟩ => ?_
  subst he
  exact ⟨_, rfl, _, _, _, [], _, [], hW', trodAll_mk1 (shut_bool Try.underlying4 _), (trodAll_cons_mk (Below.trod laidOut (by kernel_rfl) (of_decide_eq_true (by kernel_rfl)) k0 bel lt0) trodAll_mk0), rfl, bel.frame _, fun h => by cases h⟩

theorem over : Rows.fnUsersAtSellRow.holds Try.pinned (OpenSpec.ofChange Rows.fnUsersAtSellSpec) :=
  OpenClaim.holds_of_wide 6 Try.f6 rfl rfl rfl rfl rfl rfl rfl ⟨rfl, rfl, rfl, rfl, rfl⟩ rfl rfl rfl rfl rfl (by kernel_rfl) Try.func6 (by kernel_rfl)
    (of_decide_eq_true (by kernel_rfl)) (by unfold Func.isWrapper; first | (rw [if_pos (by decide +kernel)]; kernel_rfl) | (rw [if_neg (by decide +kernel)]; exact ⟨rfl, rfl⟩))
    (fun os started H enc _ => lifted os started H enc)

end Go.Proofs.Ythagafkjlecagab.fnUsersAtSell
namespace Go.Proofs.Ythagafkjlecagab
/-- the statement -/
theorem fnUsersAtSell_holds : Rows.FnUsersAtSellSaid := fnUsersAtSell.over
end Go.Proofs.Ythagafkjlecagab
