/- For every input the law answers true, and its argument reads afterwards as before: what is sold can be bought back. No condition. -/
import Derived.Test.YtppnhhnilnikfaaRows
import Derived.Test.YtppnhhnilnikfaaDrawHs
import Derived.Test.YtppnhhnilnikfaaLedR
import Derived.Test.YtppnhhnilnikfaaEqH
import Derived.Test.YtppnhhnilnikfaaKeep
import Derived.Test.YtppnhhnilnikfaaJoinS
import Derived.Test.YtppnhhnilnikfaaSellI
import Derived.WalkKit
import Derived.Deep.RegionHeld3
import Derived.Deep.QuietTactic
import Derived.ProofKit
import Derived.OpenShut
import Derived.ShutString
import Derived.ChangeOld
import Derived.Below
import Derived.Lib.SmallJoins
namespace Go.Proofs.Ytppnhhnilnikfaa.fnSellShare
open Go.ChangeShapes Go.WideShapes Go.ChangeAt Go.RowKit Go.Joins
open Go.ChangeMaps (open_string shut_string)
set_option linter.unusedVariables false
set_option linter.unusedSimpArgs false

theorem own : ownKnob Try.prog.godebug = none := by kernel_rfl
theorem laidOut : laidOutB Try.prog = true := by kernel_rfl

set_option maxRecDepth 100000 in
set_option maxHeartbeats 6000000 in
theorem walk (a0 : Option Addr) (len0 cap0 : Nat) (z0 : List Int) (w : World) (w0 : IsRow .u8 w a0 len0 cap0 z0) :
    Calls Try.prog 5 #[.slice a0 len0 cap0] w fun e w' => e = .returned (.bool true) ∧ Below w.heap.size w w' := by
  by_cases big : (1048576 : Int) < (len0 : Int)
  · go_enter Try.func5, Try.ntmps5
    go_wp2
    go_ret
    exact ⟨rfl, Below.refl _ _⟩
  go_enter Try.func5, Try.ntmps5
  go_wp2_with fail
  refine (drawSellShare a0 len0 cap0 z0 _ w0).mono ?_
  rintro e u1 ⟨b, cp, hs, q, t, x, y, rfl, hl6, hlc, hi, B0⟩
  clear w0 big
  have hwu := B0.size
  have n1 : hs.length ≤ 1048576 := by omega
  go_wp2_with fail
  have C6 := c2_new u1 (.int .i64 x) (.int .i64 y) 27
  have BU := (Below.refl _ u1).alloc (Nat.le_refl _) (.cells #[.int .i64 x, .int .i64 y] 27)
  have B := bel_tr B0 BU
  have HI := Lib.hid (hs_below hi BU)
  clear hi BU B0 hwu
  generalize u1.alloc (.cells #[.int .i64 x, .int .i64 y] 27) = U at C6 B HI ⊢
  generalize u1.heap.size = gq at C6 ⊢
  have D := Below.refl U.heap.size U
  have HC6 := Lib.hid C6
  clear C6
  have CI := iSell b cp hs q t x y U HI.out n1 hlc
  have CS : ∀ W, Below U.heap.size U W → Calls Try.prog 21 #[.slice b hs.length cp, .int .i64 q, .int .i64 t, .agg #[.int .i64 x, .int .i64 y]] W (MoveV W (selB hs q t x y) (selL hs q t x y)) := fun W hW => sSell b cp hs q t x y W (hs_below HI.out hW) n1
  cases hv : selB hs q t x y with
  | false =>
    rw [hv] at CI CS
    have CE : ∀ W, Calls Try.prog 22 #[.slice none 0 0, .slice none 0 0] W fun e w' => e = .returned (.bool true) ∧ Below W.heap.size W w' := fun W => eqHd none none 0 0 [] W (.inl rfl) (.inl rfl) (by decide)
    clear hv
    refine CI.mono ?_
    rintro e u ⟨v, rfl, hv0, _, C⟩
    obtain rfl := hv0 rfl
    replace B := bel_tr B C
    replace D := bel_tr D C
    clear C hv0 CI
    obtain ⟨s0, s1, _, _, _⟩ := c2_below HC6.out D
    go_wp2_with fail
    refine (CS _ D).mono ?_
    rintro e u ⟨v, rfl, hv0, _, C⟩
    obtain rfl := hv0 rfl
    replace B := bel_tr B C
    clear C hv0 CS s0 s1
    go_wp2_with fail
    refine (CE _).mono ?_
    rintro e u ⟨rfl, C⟩
    replace B := bel_tr B C
    clear C
    go_wp2_with fail
    refine (CE _).mono ?_
    rintro e u ⟨rfl, C⟩
    replace B := bel_tr B C
    clear C
    go_wp2_with fail
    go_ret
    exact ⟨rfl, B⟩
  | true =>
    obtain ⟨hb1, hb2, ok, oko, hlaw⟩ := sell_law hv
    obtain ⟨n0, n2⟩ := sel_small hv
    rw [hv] at CI CS
    have hne : 1 ≤ hs.length := vl_some ok
    generalize selL hs q t x y = M0 at CI CS hb1 hb2 oko hlaw n0 n2
    have HB1 := Lib.hid hb1
    have HB2 := Lib.hid hb2
    have HOK := Lib.hid oko
    have HLAW := Lib.hid hlaw
    clear hv hb1 hb2 ok oko hlaw
    refine CI.mono ?_
    rintro e UM ⟨v, rfl, _, hown, C⟩
    replace hown := hown rfl
    obtain ⟨g, co, rfl, _, _⟩ := World.ownsRow.form hown (by omega)
    obtain ⟨hO, hco⟩ := own_ishs hown rfl
    have HI2 := Lib.hid (hs_below (hs_below HI.out D) C)
    have HC7 := Lib.hid (c2_below (c2_below HC6.out D) C)
    replace B := bel_tr B C
    replace D := bel_tr D C
    have E := Below.refl UM.heap.size UM
    have HO := Lib.hid hO
    clear C hown CI hO
    obtain ⟨s0, s1, _, _, _⟩ := HC7.out
    go_wp2_with fail
    refine (CS _ D).mono ?_
    rintro e u ⟨v, rfl, _, hown, C⟩
    replace hown := hown rfl
    obtain ⟨g2, co2, rfl, _, _⟩ := World.ownsRow.form hown (by omega)
    obtain ⟨hO2, _⟩ := own_ishs hown rfl
    replace B := bel_tr B C
    replace E := bel_tr E C
    clear C hown CS D s0 s1
    go_wp2_with fail
    refine (eqHd _ _ co co2 _ _ (hs_below HO.out E) hO2 n2).mono ?_
    rintro e u ⟨rfl, C⟩
    replace B := bel_tr B C
    replace E := bel_tr E C
    clear C hO2
    obtain ⟨s0, s1, _, _, _⟩ := c2_below HC7.out E
    have CB := iSell (some ⟨g, 0, none⟩) co (rawL M0) t q x y u (hs_below HO.out E) n2 hco
    rw [HB1.out] at CB
    unfold MoveV at CB
    rw [HB2.out] at CB
    go_wp2_with fail
    refine CB.mono ?_
    rintro e UB ⟨v, rfl, _, hown, C⟩
    replace hown := hown (by trivial)
    obtain ⟨gb, cb, rfl, _, _⟩ := World.ownsRow.form hown (by omega)
    have HBB := Lib.hid (own_ishs hown rfl).1
    replace B := bel_tr B C
    replace E := bel_tr E C
    have F := Below.refl UB.heap.size UB
    clear C hown CB s0 s1
    have HSO : ∀ z W, Below UM.heap.size UM W → Calls Try.prog 15 #[.slice (some ⟨g, 0, none⟩) (rawL M0).length co, .int .i64 z] W (ShareO W (rawL M0) z) := fun z W hW => iShareOf _ co (rawL M0) z W (hs_below HO.out hW) n2
    have HVL : ∀ W, Below UM.heap.size UM W → Calls Try.prog 12 #[.slice (some ⟨g, 0, none⟩) (rawL M0).length co] W fun e w' => e = .returned (.bool true) ∧ Below W.heap.size W w' := fun W hW => by
      have := iVL _ co (rawL M0) W (hs_below HO.out hW) n2
      rw [HOK.out] at this; exact this
    have hcl : IsHs UM b hs := HI2.out
    rcases hcl with rfl | ⟨ga, oa, rfl, hc⟩
    · simp at hne
    have HC := Lib.hid hc
    clear hc
    go_wp2_with fail
    go_loopw [13] (fun i wr => ∃ k : Nat, k ≤ hs.length ∧ i = .int .i64 k ∧ Below w.heap.size w wr ∧ Below UM.heap.size UM wr ∧ Below UB.heap.size UB wr) (fun i _ => hs.length - (intOf i).toNat)
    case atStart => exact ⟨0, Nat.zero_le _, rfl, B, E, F⟩
    case round =>
      clear B E F
      obtain ⟨k, hk, rfl, B, E, F⟩ := hrel
      by_cases hlt : k < hs.length
      · obtain ⟨c0, c1, c2⟩ := hs_at HC.out E hlt
        have hl := HLAW.out k hlt
        generalize hs.getD k hd0 = hh at c0 c1 c2 hl
        obtain ⟨z, m1, m2⟩ := hh
        dsimp only at c0 c1 c2 hl
        have k0 : (0 : Int) ≤ (k : Int) := by omega
        have k1 : (k : Int) < (hs.length : Int) := by omega
        have HB := Lib.hid B
        have HE := Lib.hid E
        have HF := Lib.hid F
        clear B E F HVL
        by_cases ef : z = q
        · have e1 : (z != q) = false := by simpa using ef
          clear hl ef HSO
          go_wp2_with fail
          refine wp_region_held_drew (S := (fun w' => (w'.cell? ⟨ga, oa + k * 3, none⟩ = some (.int .i64 z) ∧ w'.cell? ⟨ga, oa + k * 3 + 1, none⟩ = some (.int .i64 m1) ∧ w'.cell? ⟨ga, oa + k * 3 + 2, none⟩ = some (.int .i64 m2)) ∧ Below wr.heap.size wr w')) (by kernel_rfl) ?_ (fun hHeld => ?_)
          · exact ⟨⟨c0, c1, c2⟩, (Below.refl _ _).drew⟩
          refine wpAnyH_take (i := 0) (oi := ?ooa0) (v := ?vva0) ?hia0 (by kernel_rfl) ?h3a0 ?h4a0 ?h5a0 ?h6a0 (by assumption) ?h8a0
          case hia0 => (simp only [List.getElem?_toArray, List.getElem?_cons_succ, List.getElem?_cons_zero]; rfl)
          case h3a0 => kernel_rfl
          case h4a0 => kernel_rfl
          case h6a0 => (refine Or.inl ⟨by rfl, ?_⟩; intro w hSw; (try dsimp only at hSw); (go_simp <;> with_reducible rfl))
          case h5a0 => exact fun _ _ _ h => h
          try simp only [Act.put, List.setIfInBounds_toArray, List.set_cons_zero, List.set_cons_succ]
          refine wpAnyH_take (i := 1) (oi := ?ooa1) (v := ?vva1) ?hia1 (by kernel_rfl) ?h3a1 ?h4a1 ?h5a1 ?h6a1 (by assumption) ?h8a1
          case hia1 => (simp only [List.getElem?_toArray, List.getElem?_cons_succ, List.getElem?_cons_zero]; rfl)
          case h3a1 => kernel_rfl
          case h4a1 => kernel_rfl
          case h6a1 => (refine Or.inl ⟨by rfl, ?_⟩; intro w hSw; (try dsimp only at hSw); (go_simp <;> with_reducible rfl))
          case h5a1 => exact fun _ _ _ h => h
          try simp only [Act.put, List.setIfInBounds_toArray, List.set_cons_zero, List.set_cons_succ]
          refine wpAnyH_take (i := 2) (oi := ?ooa2) (v := ?vva2) ?hia2 (by kernel_rfl) ?h3a2 ?h4a2 ?h5a2 ?h6a2 (by assumption) ?h8a2
          case hia2 => (simp only [List.getElem?_toArray, List.getElem?_cons_succ, List.getElem?_cons_zero]; rfl)
          case h3a2 => kernel_rfl
          case h4a2 => kernel_rfl
          case h6a2 => (refine Or.inl ⟨by rfl, ?_⟩; intro w hSw; (try dsimp only at hSw); (go_simp <;> with_reducible rfl))
          case h5a2 => exact fun _ _ _ h => h
          try simp only [Act.put, List.setIfInBounds_toArray, List.set_cons_zero, List.set_cons_succ]
          refine wpAnyH_take (i := 3) (oi := ?ooa3) (v := ?vva3) ?hia3 (by kernel_rfl) ?h3a3 ?h4a3 ?h5a3 ?h6a3 (by assumption) ?h8a3
          case hia3 => (simp only [List.getElem?_toArray, List.getElem?_cons_succ, List.getElem?_cons_zero]; rfl)
          case h3a3 => kernel_rfl
          case h4a3 => kernel_rfl
          case h6a3 => (refine Or.inl ⟨by rfl, ?_⟩; intro w hSw; (try dsimp only at hSw); (go_simp <;> with_reducible rfl))
          case h5a3 => exact fun _ _ _ h => h
          try simp only [Act.put, List.setIfInBounds_toArray, List.set_cons_zero, List.set_cons_succ]
          refine wpAnyH_take (i := 4) (oi := ?ooa4) (v := ?vva4) ?hia4 (by kernel_rfl) ?h3a4 ?h4a4 ?h5a4 ?h6a4 (by assumption) ?h8a4
          case hia4 => (simp only [List.getElem?_toArray, List.getElem?_cons_succ, List.getElem?_cons_zero]; rfl)
          case h3a4 => kernel_rfl
          case h4a4 => kernel_rfl
          case h6a4 => (refine Or.inl ⟨by rfl, ?_⟩; intro w hSw; (try dsimp only at hSw); (go_simp <;> with_reducible rfl))
          case h5a4 => exact fun _ _ _ h => h
          try simp only [Act.put, List.setIfInBounds_toArray, List.set_cons_zero, List.set_cons_succ]
          refine wpAnyH_take (i := 5) (oi := ?ooa5) (v := ?vva5) ?hia5 (by kernel_rfl) ?h3a5 ?h4a5 ?h5a5 ?h6a5 (by assumption) ?h8a5
          case hia5 => (simp only [List.getElem?_toArray, List.getElem?_cons_succ, List.getElem?_cons_zero]; rfl)
          case h3a5 => kernel_rfl
          case h4a5 => kernel_rfl
          case h6a5 => (refine Or.inl ⟨by rfl, ?_⟩; intro w hSw; (try dsimp only at hSw); (go_simp <;> with_reducible rfl))
          case h5a5 => exact fun _ _ _ h => h
          try simp only [Act.put, List.setIfInBounds_toArray, List.set_cons_zero, List.set_cons_succ]
          refine wpAnyH_take (i := 6) (oi := ?ooa6) (v := ?vva6) ?hia6 (by kernel_rfl) ?h3a6 ?h4a6 ?h5a6 ?h6a6 (by assumption) ?h8a6
          case hia6 => (simp only [List.getElem?_toArray, List.getElem?_cons_succ, List.getElem?_cons_zero]; rfl)
          case h3a6 => kernel_rfl
          case h4a6 => kernel_rfl
          case h6a6 => (refine Or.inl ⟨by rfl, ?_⟩; intro w hSw; (try dsimp only at hSw); (go_simp <;> with_reducible rfl))
          case h5a6 => exact fun _ _ _ h => h
          try simp only [Act.put, List.setIfInBounds_toArray, List.set_cons_zero, List.set_cons_succ]
          refine wpAnyH_take (i := 7) (oi := ?ooa7) (v := ?vva7) ?hia7 (by kernel_rfl) ?h3a7 ?h4a7 ?h5a7 ?h6a7 (by assumption) ?h8a7
          case hia7 => (simp only [List.getElem?_toArray, List.getElem?_cons_succ, List.getElem?_cons_zero]; rfl)
          case h3a7 => kernel_rfl
          case h4a7 => kernel_rfl
          case h6a7 => (refine Or.inl ⟨by rfl, ?_⟩; intro w hSw; (try dsimp only at hSw); (go_simp <;> with_reducible rfl))
          case h5a7 => exact fun _ _ _ h => h
          try simp only [Act.put, List.setIfInBounds_toArray, List.set_cons_zero, List.set_cons_succ]
          refine wpAnyH_take (i := 8) (oi := ?ooa8) (v := undef) ?hia8 (by kernel_rfl) ?h3a8 ?h4a8 ?h5a8 ?h6a8 (by assumption) ?h8a8
          case hia8 => (simp only [List.getElem?_toArray, List.getElem?_cons_succ, List.getElem?_cons_zero]; rfl)
          case h3a8 => kernel_rfl
          case h4a8 => kernel_rfl
          case h6a8 => exact Or.inr ⟨by rfl, rfl⟩
          case h5a8 => exact fun _ _ _ h => h
          try simp only [Act.put, List.setIfInBounds_toArray, List.set_cons_zero, List.set_cons_succ]
          refine wpAnyH_take (i := 9) (oi := ?ooa9) (v := undef) ?hia9 (by kernel_rfl) ?h3a9 ?h4a9 ?h5a9 ?h6a9 (by assumption) ?h8a9
          case hia9 => (simp only [List.getElem?_toArray, List.getElem?_cons_succ, List.getElem?_cons_zero]; rfl)
          case h3a9 => kernel_rfl
          case h4a9 => kernel_rfl
          case h6a9 => exact Or.inr ⟨by rfl, rfl⟩
          case h5a9 => exact fun _ _ _ h => h
          try simp only [Act.put, List.setIfInBounds_toArray, List.set_cons_zero, List.set_cons_succ]
          refine wpAnyH_take (i := 10) (oi := ?ooa10) (v := undef) ?hia10 (by kernel_rfl) ?h3a10 ?h4a10 ?h5a10 ?h6a10 (by assumption) ?h8a10
          case hia10 => (simp only [List.getElem?_toArray, List.getElem?_cons_succ, List.getElem?_cons_zero]; rfl)
          case h3a10 => kernel_rfl
          case h4a10 => kernel_rfl
          case h6a10 => exact Or.inr ⟨by rfl, rfl⟩
          case h5a10 => exact fun _ _ _ h => h
          try simp only [Act.put, List.setIfInBounds_toArray, List.set_cons_zero, List.set_cons_succ]
          refine wpAnyH_take (i := 11) (oi := ?ooa11) (v := undef) ?hia11 (by kernel_rfl) ?h3a11 ?h4a11 ?h5a11 ?h6a11 (by assumption) ?h8a11
          case hia11 => (simp only [List.getElem?_toArray, List.getElem?_cons_succ, List.getElem?_cons_zero]; rfl)
          case h3a11 => kernel_rfl
          case h4a11 => kernel_rfl
          case h6a11 => exact Or.inr ⟨by rfl, rfl⟩
          case h5a11 => exact fun _ _ _ h => h
          try simp only [Act.put, List.setIfInBounds_toArray, List.set_cons_zero, List.set_cons_succ]
          refine wpAnyH_take (i := 12) (oi := ?ooa12) (v := undef) ?hia12 (by kernel_rfl) ?h3a12 ?h4a12 ?h5a12 ?h6a12 (by assumption) ?h8a12
          case hia12 => (simp only [List.getElem?_toArray, List.getElem?_cons_succ, List.getElem?_cons_zero]; rfl)
          case h3a12 => kernel_rfl
          case h4a12 => kernel_rfl
          case h6a12 => exact Or.inr ⟨by rfl, rfl⟩
          case h5a12 => exact fun _ _ _ h => h
          try simp only [Act.put, List.setIfInBounds_toArray, List.set_cons_zero, List.set_cons_succ]
          refine wpAnyH_take (i := 13) (oi := ?ooa13) (v := undef) ?hia13 (by kernel_rfl) ?h3a13 ?h4a13 ?h5a13 ?h6a13 (by assumption) ?h8a13
          case hia13 => (simp only [List.getElem?_toArray, List.getElem?_cons_succ, List.getElem?_cons_zero]; rfl)
          case h3a13 => kernel_rfl
          case h4a13 => kernel_rfl
          case h6a13 => exact Or.inr ⟨by rfl, rfl⟩
          case h5a13 => exact fun _ _ _ h => h
          try simp only [Act.put, List.setIfInBounds_toArray, List.set_cons_zero, List.set_cons_succ]
          refine wpAnyH_take (i := 14) (oi := ?ooa14) (v := undef) ?hia14 (by kernel_rfl) ?h3a14 ?h4a14 ?h5a14 ?h6a14 (by assumption) ?h8a14
          case hia14 => (simp only [List.getElem?_toArray, List.getElem?_cons_succ, List.getElem?_cons_zero]; rfl)
          case h3a14 => kernel_rfl
          case h4a14 => kernel_rfl
          case h6a14 => exact Or.inr ⟨by rfl, rfl⟩
          case h5a14 => exact fun _ _ _ h => h
          try simp only [Act.put, List.setIfInBounds_toArray, List.set_cons_zero, List.set_cons_succ]
          refine wpAnyH_take (i := 15) (oi := ?ooa15) (v := ?vva15) ?hia15 (by kernel_rfl) ?h3a15 ?h4a15 ?h5a15 ?h6a15 (by assumption) ?h8a15
          case hia15 => (simp only [List.getElem?_toArray, List.getElem?_cons_succ, List.getElem?_cons_zero]; rfl)
          case h3a15 => kernel_rfl
          case h4a15 => kernel_rfl
          case h6a15 => (refine Or.inl ⟨by rfl, ?_⟩; intro w hSw; (try dsimp only at hSw); (go_simp <;> with_reducible rfl))
          case h5a15 => exact fun _ _ _ h => h
          try simp only [Act.put, List.setIfInBounds_toArray, List.set_cons_zero, List.set_cons_succ]
          refine wpAnyH_take (i := 16) (oi := ?ooa16) (v := ?vva16) ?hia16 (by kernel_rfl) ?h3a16 ?h4a16 ?h5a16 ?h6a16 (by assumption) ?h8a16
          case hia16 => (simp only [List.getElem?_toArray, List.getElem?_cons_succ, List.getElem?_cons_zero]; rfl)
          case h3a16 => kernel_rfl
          case h4a16 => kernel_rfl
          case h6a16 => (refine Or.inl ⟨by rfl, ?_⟩; intro w hSw; (try dsimp only at hSw); (go_simp <;> with_reducible rfl))
          case h5a16 => exact fun _ _ _ h => h
          try simp only [Act.put, List.setIfInBounds_toArray, List.set_cons_zero, List.set_cons_succ]
          refine wpAnyH_take (i := 17) (oi := ?ooa17) (v := undef) ?hia17 (by kernel_rfl) ?h3a17 ?h4a17 ?h5a17 ?h6a17 (by assumption) ?h8a17
          case hia17 => (simp only [List.getElem?_toArray, List.getElem?_cons_succ, List.getElem?_cons_zero]; rfl)
          case h3a17 => kernel_rfl
          case h4a17 => kernel_rfl
          case h6a17 => exact Or.inr ⟨by rfl, rfl⟩
          case h5a17 => exact fun _ _ _ h => h
          try simp only [Act.put, List.setIfInBounds_toArray, List.set_cons_zero, List.set_cons_succ]
          refine wpAnyH_take (i := 18) (oi := ?ooa18) (v := undef) ?hia18 (by kernel_rfl) ?h3a18 ?h4a18 ?h5a18 ?h6a18 (by assumption) ?h8a18
          case hia18 => (simp only [List.getElem?_toArray, List.getElem?_cons_succ, List.getElem?_cons_zero]; rfl)
          case h3a18 => kernel_rfl
          case h4a18 => kernel_rfl
          case h6a18 => exact Or.inr ⟨by rfl, rfl⟩
          case h5a18 => exact fun _ _ _ h => h
          try simp only [Act.put, List.setIfInBounds_toArray, List.set_cons_zero, List.set_cons_succ]
          refine wpAnyH_take (i := 19) (oi := ?ooa19) (v := undef) ?hia19 (by kernel_rfl) ?h3a19 ?h4a19 ?h5a19 ?h6a19 (by assumption) ?h8a19
          case hia19 => (simp only [List.getElem?_toArray, List.getElem?_cons_succ, List.getElem?_cons_zero]; rfl)
          case h3a19 => kernel_rfl
          case h4a19 => kernel_rfl
          case h6a19 => exact Or.inr ⟨by rfl, rfl⟩
          case h5a19 => exact fun _ _ _ h => h
          try simp only [Act.put, List.setIfInBounds_toArray, List.set_cons_zero, List.set_cons_succ]
          refine wpAnyH_take (i := 20) (oi := ?ooa20) (v := undef) ?hia20 (by kernel_rfl) ?h3a20 ?h4a20 ?h5a20 ?h6a20 (by assumption) ?h8a20
          case hia20 => (simp only [List.getElem?_toArray, List.getElem?_cons_succ, List.getElem?_cons_zero]; rfl)
          case h3a20 => kernel_rfl
          case h4a20 => kernel_rfl
          case h6a20 => exact Or.inr ⟨by rfl, rfl⟩
          case h5a20 => exact fun _ _ _ h => h
          try simp only [Act.put, List.setIfInBounds_toArray, List.set_cons_zero, List.set_cons_succ]
          refine wpAnyH_take (i := 21) (oi := ?ooa21) (v := undef) ?hia21 (by kernel_rfl) ?h3a21 ?h4a21 ?h5a21 ?h6a21 (by assumption) ?h8a21
          case hia21 => (simp only [List.getElem?_toArray, List.getElem?_cons_succ, List.getElem?_cons_zero]; rfl)
          case h3a21 => kernel_rfl
          case h4a21 => kernel_rfl
          case h6a21 => exact Or.inr ⟨by rfl, rfl⟩
          case h5a21 => exact fun _ _ _ h => h
          try simp only [Act.put, List.setIfInBounds_toArray, List.set_cons_zero, List.set_cons_succ]
          refine wpAnyH_take (i := 22) (oi := ?ooa22) (v := undef) ?hia22 (by kernel_rfl) ?h3a22 ?h4a22 ?h5a22 ?h6a22 (by assumption) ?h8a22
          case hia22 => (simp only [List.getElem?_toArray, List.getElem?_cons_succ, List.getElem?_cons_zero]; rfl)
          case h3a22 => kernel_rfl
          case h4a22 => kernel_rfl
          case h6a22 => exact Or.inr ⟨by rfl, rfl⟩
          case h5a22 => exact fun _ _ _ h => h
          try simp only [Act.put, List.setIfInBounds_toArray, List.set_cons_zero, List.set_cons_succ]
          refine wpAnyH_take (i := 23) (oi := ?ooa23) (v := undef) ?hia23 (by kernel_rfl) ?h3a23 ?h4a23 ?h5a23 ?h6a23 (by assumption) ?h8a23
          case hia23 => (simp only [List.getElem?_toArray, List.getElem?_cons_succ, List.getElem?_cons_zero]; rfl)
          case h3a23 => kernel_rfl
          case h4a23 => kernel_rfl
          case h6a23 => exact Or.inr ⟨by rfl, rfl⟩
          case h5a23 => exact fun _ _ _ h => h
          try simp only [Act.put, List.setIfInBounds_toArray, List.set_cons_zero, List.set_cons_succ]
          refine wpAnyH_take (i := 24) (oi := ?ooa24) (v := undef) ?hia24 (by kernel_rfl) ?h3a24 ?h4a24 ?h5a24 ?h6a24 (by assumption) ?h8a24
          case hia24 => (simp only [List.getElem?_toArray, List.getElem?_cons_succ, List.getElem?_cons_zero]; rfl)
          case h3a24 => kernel_rfl
          case h4a24 => kernel_rfl
          case h6a24 => exact Or.inr ⟨by rfl, rfl⟩
          case h5a24 => exact fun _ _ _ h => h
          try simp only [Act.put, List.setIfInBounds_toArray, List.set_cons_zero, List.set_cons_succ]
          refine wpAnyH_take (i := 25) (oi := ?ooa25) (v := undef) ?hia25 (by kernel_rfl) ?h3a25 ?h4a25 ?h5a25 ?h6a25 (by assumption) ?h8a25
          case hia25 => (simp only [List.getElem?_toArray, List.getElem?_cons_succ, List.getElem?_cons_zero]; rfl)
          case h3a25 => kernel_rfl
          case h4a25 => kernel_rfl
          case h6a25 => exact Or.inr ⟨by rfl, rfl⟩
          case h5a25 => exact fun _ _ _ h => h
          try simp only [Act.put, List.setIfInBounds_toArray, List.set_cons_zero, List.set_cons_succ]
          refine wpAnyH_take (i := 26) (oi := ?ooa26) (v := undef) ?hia26 (by kernel_rfl) ?h3a26 ?h4a26 ?h5a26 ?h6a26 (by assumption) ?h8a26
          case hia26 => (simp only [List.getElem?_toArray, List.getElem?_cons_succ, List.getElem?_cons_zero]; rfl)
          case h3a26 => kernel_rfl
          case h4a26 => kernel_rfl
          case h6a26 => exact Or.inr ⟨by rfl, rfl⟩
          case h5a26 => exact fun _ _ _ h => h
          try simp only [Act.put, List.setIfInBounds_toArray, List.set_cons_zero, List.set_cons_succ]
          refine wpAnyH_take (i := 27) (oi := ?ooa27) (v := undef) ?hia27 (by kernel_rfl) ?h3a27 ?h4a27 ?h5a27 ?h6a27 (by assumption) ?h8a27
          case hia27 => (simp only [List.getElem?_toArray, List.getElem?_cons_succ, List.getElem?_cons_zero]; rfl)
          case h3a27 => kernel_rfl
          case h4a27 => kernel_rfl
          case h6a27 => exact Or.inr ⟨by rfl, rfl⟩
          case h5a27 => exact fun _ _ _ h => h
          try simp only [Act.put, List.setIfInBounds_toArray, List.set_cons_zero, List.set_cons_succ]
          refine wpAnyH_take (i := 28) (oi := ?ooa28) (v := undef) ?hia28 (by kernel_rfl) ?h3a28 ?h4a28 ?h5a28 ?h6a28 (by assumption) ?h8a28
          case hia28 => (simp only [List.getElem?_toArray, List.getElem?_cons_succ, List.getElem?_cons_zero]; rfl)
          case h3a28 => kernel_rfl
          case h4a28 => kernel_rfl
          case h6a28 => exact Or.inr ⟨by rfl, rfl⟩
          case h5a28 => exact fun _ _ _ h => h
          try simp only [Act.put, List.setIfInBounds_toArray, List.set_cons_zero, List.set_cons_succ]
          refine wpAnyH_take (i := 29) (oi := ?ooa29) (v := undef) ?hia29 (by kernel_rfl) ?h3a29 ?h4a29 ?h5a29 ?h6a29 (by assumption) ?h8a29
          case hia29 => (simp only [List.getElem?_toArray, List.getElem?_cons_succ, List.getElem?_cons_zero]; rfl)
          case h3a29 => kernel_rfl
          case h4a29 => kernel_rfl
          case h6a29 => exact Or.inr ⟨by rfl, rfl⟩
          case h5a29 => exact fun _ _ _ h => h
          try simp only [Act.put, List.setIfInBounds_toArray, List.set_cons_zero, List.set_cons_succ]
          refine wpAnyH_take (i := 30) (oi := ?ooa30) (v := ?vva30) ?hia30 (by kernel_rfl) ?h3a30 ?h4a30 ?h5a30 ?h6a30 (by assumption) ?h8a30
          case hia30 => (simp only [List.getElem?_toArray, List.getElem?_cons_succ, List.getElem?_cons_zero]; rfl)
          case h3a30 => kernel_rfl
          case h4a30 => kernel_rfl
          case h6a30 => (refine Or.inl ⟨by rfl, ?_⟩; intro w hSw; (try dsimp only at hSw); (go_simp <;> with_reducible rfl))
          case h5a30 => exact fun _ _ _ h => h
          try simp only [Act.put, List.setIfInBounds_toArray, List.set_cons_zero, List.set_cons_succ]
          refine wpAnyH_done (by kernel_rfl) ?_ _
          have B := bel_tr HB.out (And.right (by assumption))
          have E := bel_tr HE.out (And.right (by assumption))
          have F := bel_tr HF.out (And.right (by assumption))
          go_wp2_with fail
          go_roundw
          case rel => exact ⟨k + 1, by omega, by go_num, B, E, F⟩
          case measure => simp [intOf]; omega
        · have e1 : (z != q) = true := by simpa using ef
          by_cases et : z = t
          · have e2 : (z != t) = false := by simpa using et
            clear hl ef et HSO
            go_wp2_with fail
            refine wp_region_held_drew (S := (fun w' => (w'.cell? ⟨ga, oa + k * 3, none⟩ = some (.int .i64 z) ∧ w'.cell? ⟨ga, oa + k * 3 + 1, none⟩ = some (.int .i64 m1) ∧ w'.cell? ⟨ga, oa + k * 3 + 2, none⟩ = some (.int .i64 m2)) ∧ Below wr.heap.size wr w')) (by kernel_rfl) ?_ (fun hHeld => ?_)
            · exact ⟨⟨c0, c1, c2⟩, (Below.refl _ _).drew⟩
            refine wpAnyH_take (i := 0) (oi := ?oob0) (v := ?vvb0) ?hib0 (by kernel_rfl) ?h3b0 ?h4b0 ?h5b0 ?h6b0 (by assumption) ?h8b0
            case hib0 => (simp only [List.getElem?_toArray, List.getElem?_cons_succ, List.getElem?_cons_zero]; rfl)
            case h3b0 => kernel_rfl
            case h4b0 => kernel_rfl
            case h6b0 => (refine Or.inl ⟨by rfl, ?_⟩; intro w hSw; (try dsimp only at hSw); (go_simp <;> with_reducible rfl))
            case h5b0 => exact fun _ _ _ h => h
            try simp only [Act.put, List.setIfInBounds_toArray, List.set_cons_zero, List.set_cons_succ]
            refine wpAnyH_take (i := 1) (oi := ?oob1) (v := ?vvb1) ?hib1 (by kernel_rfl) ?h3b1 ?h4b1 ?h5b1 ?h6b1 (by assumption) ?h8b1
            case hib1 => (simp only [List.getElem?_toArray, List.getElem?_cons_succ, List.getElem?_cons_zero]; rfl)
            case h3b1 => kernel_rfl
            case h4b1 => kernel_rfl
            case h6b1 => (refine Or.inl ⟨by rfl, ?_⟩; intro w hSw; (try dsimp only at hSw); (go_simp <;> with_reducible rfl))
            case h5b1 => exact fun _ _ _ h => h
            try simp only [Act.put, List.setIfInBounds_toArray, List.set_cons_zero, List.set_cons_succ]
            refine wpAnyH_take (i := 2) (oi := ?oob2) (v := ?vvb2) ?hib2 (by kernel_rfl) ?h3b2 ?h4b2 ?h5b2 ?h6b2 (by assumption) ?h8b2
            case hib2 => (simp only [List.getElem?_toArray, List.getElem?_cons_succ, List.getElem?_cons_zero]; rfl)
            case h3b2 => kernel_rfl
            case h4b2 => kernel_rfl
            case h6b2 => (refine Or.inl ⟨by rfl, ?_⟩; intro w hSw; (try dsimp only at hSw); (go_simp <;> with_reducible rfl))
            case h5b2 => exact fun _ _ _ h => h
            try simp only [Act.put, List.setIfInBounds_toArray, List.set_cons_zero, List.set_cons_succ]
            refine wpAnyH_take (i := 3) (oi := ?oob3) (v := ?vvb3) ?hib3 (by kernel_rfl) ?h3b3 ?h4b3 ?h5b3 ?h6b3 (by assumption) ?h8b3
            case hib3 => (simp only [List.getElem?_toArray, List.getElem?_cons_succ, List.getElem?_cons_zero]; rfl)
            case h3b3 => kernel_rfl
            case h4b3 => kernel_rfl
            case h6b3 => (refine Or.inl ⟨by rfl, ?_⟩; intro w hSw; (try dsimp only at hSw); (go_simp <;> with_reducible rfl))
            case h5b3 => exact fun _ _ _ h => h
            try simp only [Act.put, List.setIfInBounds_toArray, List.set_cons_zero, List.set_cons_succ]
            refine wpAnyH_take (i := 4) (oi := ?oob4) (v := ?vvb4) ?hib4 (by kernel_rfl) ?h3b4 ?h4b4 ?h5b4 ?h6b4 (by assumption) ?h8b4
            case hib4 => (simp only [List.getElem?_toArray, List.getElem?_cons_succ, List.getElem?_cons_zero]; rfl)
            case h3b4 => kernel_rfl
            case h4b4 => kernel_rfl
            case h6b4 => (refine Or.inl ⟨by rfl, ?_⟩; intro w hSw; (try dsimp only at hSw); (go_simp <;> with_reducible rfl))
            case h5b4 => exact fun _ _ _ h => h
            try simp only [Act.put, List.setIfInBounds_toArray, List.set_cons_zero, List.set_cons_succ]
            refine wpAnyH_take (i := 5) (oi := ?oob5) (v := ?vvb5) ?hib5 (by kernel_rfl) ?h3b5 ?h4b5 ?h5b5 ?h6b5 (by assumption) ?h8b5
            case hib5 => (simp only [List.getElem?_toArray, List.getElem?_cons_succ, List.getElem?_cons_zero]; rfl)
            case h3b5 => kernel_rfl
            case h4b5 => kernel_rfl
            case h6b5 => (refine Or.inl ⟨by rfl, ?_⟩; intro w hSw; (try dsimp only at hSw); (go_simp <;> with_reducible rfl))
            case h5b5 => exact fun _ _ _ h => h
            try simp only [Act.put, List.setIfInBounds_toArray, List.set_cons_zero, List.set_cons_succ]
            refine wpAnyH_take (i := 6) (oi := ?oob6) (v := ?vvb6) ?hib6 (by kernel_rfl) ?h3b6 ?h4b6 ?h5b6 ?h6b6 (by assumption) ?h8b6
            case hib6 => (simp only [List.getElem?_toArray, List.getElem?_cons_succ, List.getElem?_cons_zero]; rfl)
            case h3b6 => kernel_rfl
            case h4b6 => kernel_rfl
            case h6b6 => (refine Or.inl ⟨by rfl, ?_⟩; intro w hSw; (try dsimp only at hSw); (go_simp <;> with_reducible rfl))
            case h5b6 => exact fun _ _ _ h => h
            try simp only [Act.put, List.setIfInBounds_toArray, List.set_cons_zero, List.set_cons_succ]
            refine wpAnyH_take (i := 7) (oi := ?oob7) (v := ?vvb7) ?hib7 (by kernel_rfl) ?h3b7 ?h4b7 ?h5b7 ?h6b7 (by assumption) ?h8b7
            case hib7 => (simp only [List.getElem?_toArray, List.getElem?_cons_succ, List.getElem?_cons_zero]; rfl)
            case h3b7 => kernel_rfl
            case h4b7 => kernel_rfl
            case h6b7 => (refine Or.inl ⟨by rfl, ?_⟩; intro w hSw; (try dsimp only at hSw); (go_simp <;> with_reducible rfl))
            case h5b7 => exact fun _ _ _ h => h
            try simp only [Act.put, List.setIfInBounds_toArray, List.set_cons_zero, List.set_cons_succ]
            refine wpAnyH_take (i := 8) (oi := ?oob8) (v := ?vvb8) ?hib8 (by kernel_rfl) ?h3b8 ?h4b8 ?h5b8 ?h6b8 (by assumption) ?h8b8
            case hib8 => (simp only [List.getElem?_toArray, List.getElem?_cons_succ, List.getElem?_cons_zero]; rfl)
            case h3b8 => kernel_rfl
            case h4b8 => kernel_rfl
            case h6b8 => (refine Or.inl ⟨by rfl, ?_⟩; intro w hSw; (try dsimp only at hSw); (go_simp <;> with_reducible rfl))
            case h5b8 => exact fun _ _ _ h => h
            try simp only [Act.put, List.setIfInBounds_toArray, List.set_cons_zero, List.set_cons_succ]
            refine wpAnyH_take (i := 9) (oi := ?oob9) (v := ?vvb9) ?hib9 (by kernel_rfl) ?h3b9 ?h4b9 ?h5b9 ?h6b9 (by assumption) ?h8b9
            case hib9 => (simp only [List.getElem?_toArray, List.getElem?_cons_succ, List.getElem?_cons_zero]; rfl)
            case h3b9 => kernel_rfl
            case h4b9 => kernel_rfl
            case h6b9 => (refine Or.inl ⟨by rfl, ?_⟩; intro w hSw; (try dsimp only at hSw); (go_simp <;> with_reducible rfl))
            case h5b9 => exact fun _ _ _ h => h
            try simp only [Act.put, List.setIfInBounds_toArray, List.set_cons_zero, List.set_cons_succ]
            refine wpAnyH_take (i := 10) (oi := ?oob10) (v := ?vvb10) ?hib10 (by kernel_rfl) ?h3b10 ?h4b10 ?h5b10 ?h6b10 (by assumption) ?h8b10
            case hib10 => (simp only [List.getElem?_toArray, List.getElem?_cons_succ, List.getElem?_cons_zero]; rfl)
            case h3b10 => kernel_rfl
            case h4b10 => kernel_rfl
            case h6b10 => (refine Or.inl ⟨by rfl, ?_⟩; intro w hSw; (try dsimp only at hSw); (go_simp <;> with_reducible rfl))
            case h5b10 => exact fun _ _ _ h => h
            try simp only [Act.put, List.setIfInBounds_toArray, List.set_cons_zero, List.set_cons_succ]
            refine wpAnyH_take (i := 11) (oi := ?oob11) (v := ?vvb11) ?hib11 (by kernel_rfl) ?h3b11 ?h4b11 ?h5b11 ?h6b11 (by assumption) ?h8b11
            case hib11 => (simp only [List.getElem?_toArray, List.getElem?_cons_succ, List.getElem?_cons_zero]; rfl)
            case h3b11 => kernel_rfl
            case h4b11 => kernel_rfl
            case h6b11 => (refine Or.inl ⟨by rfl, ?_⟩; intro w hSw; (try dsimp only at hSw); (go_simp <;> with_reducible rfl))
            case h5b11 => exact fun _ _ _ h => h
            try simp only [Act.put, List.setIfInBounds_toArray, List.set_cons_zero, List.set_cons_succ]
            refine wpAnyH_take (i := 12) (oi := ?oob12) (v := ?vvb12) ?hib12 (by kernel_rfl) ?h3b12 ?h4b12 ?h5b12 ?h6b12 (by assumption) ?h8b12
            case hib12 => (simp only [List.getElem?_toArray, List.getElem?_cons_succ, List.getElem?_cons_zero]; rfl)
            case h3b12 => kernel_rfl
            case h4b12 => kernel_rfl
            case h6b12 => (refine Or.inl ⟨by rfl, ?_⟩; intro w hSw; (try dsimp only at hSw); (go_simp <;> with_reducible rfl))
            case h5b12 => exact fun _ _ _ h => h
            try simp only [Act.put, List.setIfInBounds_toArray, List.set_cons_zero, List.set_cons_succ]
            refine wpAnyH_take (i := 13) (oi := ?oob13) (v := ?vvb13) ?hib13 (by kernel_rfl) ?h3b13 ?h4b13 ?h5b13 ?h6b13 (by assumption) ?h8b13
            case hib13 => (simp only [List.getElem?_toArray, List.getElem?_cons_succ, List.getElem?_cons_zero]; rfl)
            case h3b13 => kernel_rfl
            case h4b13 => kernel_rfl
            case h6b13 => (refine Or.inl ⟨by rfl, ?_⟩; intro w hSw; (try dsimp only at hSw); (go_simp <;> with_reducible rfl))
            case h5b13 => exact fun _ _ _ h => h
            try simp only [Act.put, List.setIfInBounds_toArray, List.set_cons_zero, List.set_cons_succ]
            refine wpAnyH_take (i := 14) (oi := ?oob14) (v := ?vvb14) ?hib14 (by kernel_rfl) ?h3b14 ?h4b14 ?h5b14 ?h6b14 (by assumption) ?h8b14
            case hib14 => (simp only [List.getElem?_toArray, List.getElem?_cons_succ, List.getElem?_cons_zero]; rfl)
            case h3b14 => kernel_rfl
            case h4b14 => kernel_rfl
            case h6b14 => (refine Or.inl ⟨by rfl, ?_⟩; intro w hSw; (try dsimp only at hSw); (go_simp <;> with_reducible rfl))
            case h5b14 => exact fun _ _ _ h => h
            try simp only [Act.put, List.setIfInBounds_toArray, List.set_cons_zero, List.set_cons_succ]
            refine wpAnyH_take (i := 15) (oi := ?oob15) (v := ?vvb15) ?hib15 (by kernel_rfl) ?h3b15 ?h4b15 ?h5b15 ?h6b15 (by assumption) ?h8b15
            case hib15 => (simp only [List.getElem?_toArray, List.getElem?_cons_succ, List.getElem?_cons_zero]; rfl)
            case h3b15 => kernel_rfl
            case h4b15 => kernel_rfl
            case h6b15 => (refine Or.inl ⟨by rfl, ?_⟩; intro w hSw; (try dsimp only at hSw); (go_simp <;> with_reducible rfl))
            case h5b15 => exact fun _ _ _ h => h
            try simp only [Act.put, List.setIfInBounds_toArray, List.set_cons_zero, List.set_cons_succ]
            refine wpAnyH_take (i := 16) (oi := ?oob16) (v := ?vvb16) ?hib16 (by kernel_rfl) ?h3b16 ?h4b16 ?h5b16 ?h6b16 (by assumption) ?h8b16
            case hib16 => (simp only [List.getElem?_toArray, List.getElem?_cons_succ, List.getElem?_cons_zero]; rfl)
            case h3b16 => kernel_rfl
            case h4b16 => kernel_rfl
            case h6b16 => (refine Or.inl ⟨by rfl, ?_⟩; intro w hSw; (try dsimp only at hSw); (go_simp <;> with_reducible rfl))
            case h5b16 => exact fun _ _ _ h => h
            try simp only [Act.put, List.setIfInBounds_toArray, List.set_cons_zero, List.set_cons_succ]
            refine wpAnyH_take (i := 17) (oi := ?oob17) (v := undef) ?hib17 (by kernel_rfl) ?h3b17 ?h4b17 ?h5b17 ?h6b17 (by assumption) ?h8b17
            case hib17 => (simp only [List.getElem?_toArray, List.getElem?_cons_succ, List.getElem?_cons_zero]; rfl)
            case h3b17 => kernel_rfl
            case h4b17 => kernel_rfl
            case h6b17 => exact Or.inr ⟨by rfl, rfl⟩
            case h5b17 => exact fun _ _ _ h => h
            try simp only [Act.put, List.setIfInBounds_toArray, List.set_cons_zero, List.set_cons_succ]
            refine wpAnyH_take (i := 18) (oi := ?oob18) (v := undef) ?hib18 (by kernel_rfl) ?h3b18 ?h4b18 ?h5b18 ?h6b18 (by assumption) ?h8b18
            case hib18 => (simp only [List.getElem?_toArray, List.getElem?_cons_succ, List.getElem?_cons_zero]; rfl)
            case h3b18 => kernel_rfl
            case h4b18 => kernel_rfl
            case h6b18 => exact Or.inr ⟨by rfl, rfl⟩
            case h5b18 => exact fun _ _ _ h => h
            try simp only [Act.put, List.setIfInBounds_toArray, List.set_cons_zero, List.set_cons_succ]
            refine wpAnyH_take (i := 19) (oi := ?oob19) (v := undef) ?hib19 (by kernel_rfl) ?h3b19 ?h4b19 ?h5b19 ?h6b19 (by assumption) ?h8b19
            case hib19 => (simp only [List.getElem?_toArray, List.getElem?_cons_succ, List.getElem?_cons_zero]; rfl)
            case h3b19 => kernel_rfl
            case h4b19 => kernel_rfl
            case h6b19 => exact Or.inr ⟨by rfl, rfl⟩
            case h5b19 => exact fun _ _ _ h => h
            try simp only [Act.put, List.setIfInBounds_toArray, List.set_cons_zero, List.set_cons_succ]
            refine wpAnyH_take (i := 20) (oi := ?oob20) (v := undef) ?hib20 (by kernel_rfl) ?h3b20 ?h4b20 ?h5b20 ?h6b20 (by assumption) ?h8b20
            case hib20 => (simp only [List.getElem?_toArray, List.getElem?_cons_succ, List.getElem?_cons_zero]; rfl)
            case h3b20 => kernel_rfl
            case h4b20 => kernel_rfl
            case h6b20 => exact Or.inr ⟨by rfl, rfl⟩
            case h5b20 => exact fun _ _ _ h => h
            try simp only [Act.put, List.setIfInBounds_toArray, List.set_cons_zero, List.set_cons_succ]
            refine wpAnyH_take (i := 21) (oi := ?oob21) (v := undef) ?hib21 (by kernel_rfl) ?h3b21 ?h4b21 ?h5b21 ?h6b21 (by assumption) ?h8b21
            case hib21 => (simp only [List.getElem?_toArray, List.getElem?_cons_succ, List.getElem?_cons_zero]; rfl)
            case h3b21 => kernel_rfl
            case h4b21 => kernel_rfl
            case h6b21 => exact Or.inr ⟨by rfl, rfl⟩
            case h5b21 => exact fun _ _ _ h => h
            try simp only [Act.put, List.setIfInBounds_toArray, List.set_cons_zero, List.set_cons_succ]
            refine wpAnyH_take (i := 22) (oi := ?oob22) (v := undef) ?hib22 (by kernel_rfl) ?h3b22 ?h4b22 ?h5b22 ?h6b22 (by assumption) ?h8b22
            case hib22 => (simp only [List.getElem?_toArray, List.getElem?_cons_succ, List.getElem?_cons_zero]; rfl)
            case h3b22 => kernel_rfl
            case h4b22 => kernel_rfl
            case h6b22 => exact Or.inr ⟨by rfl, rfl⟩
            case h5b22 => exact fun _ _ _ h => h
            try simp only [Act.put, List.setIfInBounds_toArray, List.set_cons_zero, List.set_cons_succ]
            refine wpAnyH_take (i := 23) (oi := ?oob23) (v := undef) ?hib23 (by kernel_rfl) ?h3b23 ?h4b23 ?h5b23 ?h6b23 (by assumption) ?h8b23
            case hib23 => (simp only [List.getElem?_toArray, List.getElem?_cons_succ, List.getElem?_cons_zero]; rfl)
            case h3b23 => kernel_rfl
            case h4b23 => kernel_rfl
            case h6b23 => exact Or.inr ⟨by rfl, rfl⟩
            case h5b23 => exact fun _ _ _ h => h
            try simp only [Act.put, List.setIfInBounds_toArray, List.set_cons_zero, List.set_cons_succ]
            refine wpAnyH_take (i := 24) (oi := ?oob24) (v := undef) ?hib24 (by kernel_rfl) ?h3b24 ?h4b24 ?h5b24 ?h6b24 (by assumption) ?h8b24
            case hib24 => (simp only [List.getElem?_toArray, List.getElem?_cons_succ, List.getElem?_cons_zero]; rfl)
            case h3b24 => kernel_rfl
            case h4b24 => kernel_rfl
            case h6b24 => exact Or.inr ⟨by rfl, rfl⟩
            case h5b24 => exact fun _ _ _ h => h
            try simp only [Act.put, List.setIfInBounds_toArray, List.set_cons_zero, List.set_cons_succ]
            refine wpAnyH_take (i := 25) (oi := ?oob25) (v := undef) ?hib25 (by kernel_rfl) ?h3b25 ?h4b25 ?h5b25 ?h6b25 (by assumption) ?h8b25
            case hib25 => (simp only [List.getElem?_toArray, List.getElem?_cons_succ, List.getElem?_cons_zero]; rfl)
            case h3b25 => kernel_rfl
            case h4b25 => kernel_rfl
            case h6b25 => exact Or.inr ⟨by rfl, rfl⟩
            case h5b25 => exact fun _ _ _ h => h
            try simp only [Act.put, List.setIfInBounds_toArray, List.set_cons_zero, List.set_cons_succ]
            refine wpAnyH_take (i := 26) (oi := ?oob26) (v := undef) ?hib26 (by kernel_rfl) ?h3b26 ?h4b26 ?h5b26 ?h6b26 (by assumption) ?h8b26
            case hib26 => (simp only [List.getElem?_toArray, List.getElem?_cons_succ, List.getElem?_cons_zero]; rfl)
            case h3b26 => kernel_rfl
            case h4b26 => kernel_rfl
            case h6b26 => exact Or.inr ⟨by rfl, rfl⟩
            case h5b26 => exact fun _ _ _ h => h
            try simp only [Act.put, List.setIfInBounds_toArray, List.set_cons_zero, List.set_cons_succ]
            refine wpAnyH_take (i := 27) (oi := ?oob27) (v := undef) ?hib27 (by kernel_rfl) ?h3b27 ?h4b27 ?h5b27 ?h6b27 (by assumption) ?h8b27
            case hib27 => (simp only [List.getElem?_toArray, List.getElem?_cons_succ, List.getElem?_cons_zero]; rfl)
            case h3b27 => kernel_rfl
            case h4b27 => kernel_rfl
            case h6b27 => exact Or.inr ⟨by rfl, rfl⟩
            case h5b27 => exact fun _ _ _ h => h
            try simp only [Act.put, List.setIfInBounds_toArray, List.set_cons_zero, List.set_cons_succ]
            refine wpAnyH_take (i := 28) (oi := ?oob28) (v := undef) ?hib28 (by kernel_rfl) ?h3b28 ?h4b28 ?h5b28 ?h6b28 (by assumption) ?h8b28
            case hib28 => (simp only [List.getElem?_toArray, List.getElem?_cons_succ, List.getElem?_cons_zero]; rfl)
            case h3b28 => kernel_rfl
            case h4b28 => kernel_rfl
            case h6b28 => exact Or.inr ⟨by rfl, rfl⟩
            case h5b28 => exact fun _ _ _ h => h
            try simp only [Act.put, List.setIfInBounds_toArray, List.set_cons_zero, List.set_cons_succ]
            refine wpAnyH_take (i := 29) (oi := ?oob29) (v := undef) ?hib29 (by kernel_rfl) ?h3b29 ?h4b29 ?h5b29 ?h6b29 (by assumption) ?h8b29
            case hib29 => (simp only [List.getElem?_toArray, List.getElem?_cons_succ, List.getElem?_cons_zero]; rfl)
            case h3b29 => kernel_rfl
            case h4b29 => kernel_rfl
            case h6b29 => exact Or.inr ⟨by rfl, rfl⟩
            case h5b29 => exact fun _ _ _ h => h
            try simp only [Act.put, List.setIfInBounds_toArray, List.set_cons_zero, List.set_cons_succ]
            refine wpAnyH_take (i := 30) (oi := ?oob30) (v := ?vvb30) ?hib30 (by kernel_rfl) ?h3b30 ?h4b30 ?h5b30 ?h6b30 (by assumption) ?h8b30
            case hib30 => (simp only [List.getElem?_toArray, List.getElem?_cons_succ, List.getElem?_cons_zero]; rfl)
            case h3b30 => kernel_rfl
            case h4b30 => kernel_rfl
            case h6b30 => (refine Or.inl ⟨by rfl, ?_⟩; intro w hSw; (try dsimp only at hSw); (go_simp <;> with_reducible rfl))
            case h5b30 => exact fun _ _ _ h => h
            try simp only [Act.put, List.setIfInBounds_toArray, List.set_cons_zero, List.set_cons_succ]
            refine wpAnyH_done (by kernel_rfl) ?_ _
            have B := bel_tr HB.out (And.right (by assumption))
            have E := bel_tr HE.out (And.right (by assumption))
            have F := bel_tr HF.out (And.right (by assumption))
            go_wp2_with fail
            go_roundw
            case rel => exact ⟨k + 1, by omega, by go_num, B, E, F⟩
            case measure => simp [intOf]; omega
          · have e2 : (z != t) = true := by simpa using et
            have hl2 := hl ef et
            have CO := HSO z
            unfold ShareO at CO
            rw [hl2] at CO
            clear hl ef et HSO hl2
            go_wp2_with fail
            refine wp_region_held_drew (S := (fun w' => (w'.cell? ⟨ga, oa + k * 3, none⟩ = some (.int .i64 z) ∧ w'.cell? ⟨ga, oa + k * 3 + 1, none⟩ = some (.int .i64 m1) ∧ w'.cell? ⟨ga, oa + k * 3 + 2, none⟩ = some (.int .i64 m2)) ∧ Below wr.heap.size wr w')) (by kernel_rfl) ?_ (fun hHeld => ?_)
            · exact ⟨⟨c0, c1, c2⟩, (Below.refl _ _).drew⟩
            refine wpAnyH_take (i := 0) (oi := ?ooc0) (v := ?vvc0) ?hic0 (by kernel_rfl) ?h3c0 ?h4c0 ?h5c0 ?h6c0 (by assumption) ?h8c0
            case hic0 => (simp only [List.getElem?_toArray, List.getElem?_cons_succ, List.getElem?_cons_zero]; rfl)
            case h3c0 => kernel_rfl
            case h4c0 => kernel_rfl
            case h6c0 => (refine Or.inl ⟨by rfl, ?_⟩; intro w hSw; (try dsimp only at hSw); (go_simp <;> with_reducible rfl))
            case h5c0 => exact fun _ _ _ h => h
            try simp only [Act.put, List.setIfInBounds_toArray, List.set_cons_zero, List.set_cons_succ]
            refine wpAnyH_take (i := 1) (oi := ?ooc1) (v := ?vvc1) ?hic1 (by kernel_rfl) ?h3c1 ?h4c1 ?h5c1 ?h6c1 (by assumption) ?h8c1
            case hic1 => (simp only [List.getElem?_toArray, List.getElem?_cons_succ, List.getElem?_cons_zero]; rfl)
            case h3c1 => kernel_rfl
            case h4c1 => kernel_rfl
            case h6c1 => (refine Or.inl ⟨by rfl, ?_⟩; intro w hSw; (try dsimp only at hSw); (go_simp <;> with_reducible rfl))
            case h5c1 => exact fun _ _ _ h => h
            try simp only [Act.put, List.setIfInBounds_toArray, List.set_cons_zero, List.set_cons_succ]
            refine wpAnyH_take (i := 2) (oi := ?ooc2) (v := ?vvc2) ?hic2 (by kernel_rfl) ?h3c2 ?h4c2 ?h5c2 ?h6c2 (by assumption) ?h8c2
            case hic2 => (simp only [List.getElem?_toArray, List.getElem?_cons_succ, List.getElem?_cons_zero]; rfl)
            case h3c2 => kernel_rfl
            case h4c2 => kernel_rfl
            case h6c2 => (refine Or.inl ⟨by rfl, ?_⟩; intro w hSw; (try dsimp only at hSw); (go_simp <;> with_reducible rfl))
            case h5c2 => exact fun _ _ _ h => h
            try simp only [Act.put, List.setIfInBounds_toArray, List.set_cons_zero, List.set_cons_succ]
            refine wpAnyH_take (i := 3) (oi := ?ooc3) (v := ?vvc3) ?hic3 (by kernel_rfl) ?h3c3 ?h4c3 ?h5c3 ?h6c3 (by assumption) ?h8c3
            case hic3 => (simp only [List.getElem?_toArray, List.getElem?_cons_succ, List.getElem?_cons_zero]; rfl)
            case h3c3 => kernel_rfl
            case h4c3 => kernel_rfl
            case h6c3 => (refine Or.inl ⟨by rfl, ?_⟩; intro w hSw; (try dsimp only at hSw); (go_simp <;> with_reducible rfl))
            case h5c3 => exact fun _ _ _ h => h
            try simp only [Act.put, List.setIfInBounds_toArray, List.set_cons_zero, List.set_cons_succ]
            refine wpAnyH_take (i := 4) (oi := ?ooc4) (v := ?vvc4) ?hic4 (by kernel_rfl) ?h3c4 ?h4c4 ?h5c4 ?h6c4 (by assumption) ?h8c4
            case hic4 => (simp only [List.getElem?_toArray, List.getElem?_cons_succ, List.getElem?_cons_zero]; rfl)
            case h3c4 => kernel_rfl
            case h4c4 => kernel_rfl
            case h6c4 => (refine Or.inl ⟨by rfl, ?_⟩; intro w hSw; (try dsimp only at hSw); (go_simp <;> with_reducible rfl))
            case h5c4 => exact fun _ _ _ h => h
            try simp only [Act.put, List.setIfInBounds_toArray, List.set_cons_zero, List.set_cons_succ]
            refine wpAnyH_take (i := 5) (oi := ?ooc5) (v := ?vvc5) ?hic5 (by kernel_rfl) ?h3c5 ?h4c5 ?h5c5 ?h6c5 (by assumption) ?h8c5
            case hic5 => (simp only [List.getElem?_toArray, List.getElem?_cons_succ, List.getElem?_cons_zero]; rfl)
            case h3c5 => kernel_rfl
            case h4c5 => kernel_rfl
            case h6c5 => (refine Or.inl ⟨by rfl, ?_⟩; intro w hSw; (try dsimp only at hSw); (go_simp <;> with_reducible rfl))
            case h5c5 => exact fun _ _ _ h => h
            try simp only [Act.put, List.setIfInBounds_toArray, List.set_cons_zero, List.set_cons_succ]
            refine wpAnyH_take (i := 6) (oi := ?ooc6) (v := ?vvc6) ?hic6 (by kernel_rfl) ?h3c6 ?h4c6 ?h5c6 ?h6c6 (by assumption) ?h8c6
            case hic6 => (simp only [List.getElem?_toArray, List.getElem?_cons_succ, List.getElem?_cons_zero]; rfl)
            case h3c6 => kernel_rfl
            case h4c6 => kernel_rfl
            case h6c6 => (refine Or.inl ⟨by rfl, ?_⟩; intro w hSw; (try dsimp only at hSw); (go_simp <;> with_reducible rfl))
            case h5c6 => exact fun _ _ _ h => h
            try simp only [Act.put, List.setIfInBounds_toArray, List.set_cons_zero, List.set_cons_succ]
            refine wpAnyH_take (i := 7) (oi := ?ooc7) (v := ?vvc7) ?hic7 (by kernel_rfl) ?h3c7 ?h4c7 ?h5c7 ?h6c7 (by assumption) ?h8c7
            case hic7 => (simp only [List.getElem?_toArray, List.getElem?_cons_succ, List.getElem?_cons_zero]; rfl)
            case h3c7 => kernel_rfl
            case h4c7 => kernel_rfl
            case h6c7 => (refine Or.inl ⟨by rfl, ?_⟩; intro w hSw; (try dsimp only at hSw); (go_simp <;> with_reducible rfl))
            case h5c7 => exact fun _ _ _ h => h
            try simp only [Act.put, List.setIfInBounds_toArray, List.set_cons_zero, List.set_cons_succ]
            refine wpAnyH_take (i := 8) (oi := ?ooc8) (v := ?vvc8) ?hic8 (by kernel_rfl) ?h3c8 ?h4c8 ?h5c8 ?h6c8 (by assumption) ?h8c8
            case hic8 => (simp only [List.getElem?_toArray, List.getElem?_cons_succ, List.getElem?_cons_zero]; rfl)
            case h3c8 => kernel_rfl
            case h4c8 => kernel_rfl
            case h6c8 => (refine Or.inl ⟨by rfl, ?_⟩; intro w hSw; (try dsimp only at hSw); (go_simp <;> with_reducible rfl))
            case h5c8 => exact fun _ _ _ h => h
            try simp only [Act.put, List.setIfInBounds_toArray, List.set_cons_zero, List.set_cons_succ]
            refine wpAnyH_take (i := 9) (oi := ?ooc9) (v := ?vvc9) ?hic9 (by kernel_rfl) ?h3c9 ?h4c9 ?h5c9 ?h6c9 (by assumption) ?h8c9
            case hic9 => (simp only [List.getElem?_toArray, List.getElem?_cons_succ, List.getElem?_cons_zero]; rfl)
            case h3c9 => kernel_rfl
            case h4c9 => kernel_rfl
            case h6c9 => (refine Or.inl ⟨by rfl, ?_⟩; intro w hSw; (try dsimp only at hSw); (go_simp <;> with_reducible rfl))
            case h5c9 => exact fun _ _ _ h => h
            try simp only [Act.put, List.setIfInBounds_toArray, List.set_cons_zero, List.set_cons_succ]
            refine wpAnyH_take (i := 10) (oi := ?ooc10) (v := ?vvc10) ?hic10 (by kernel_rfl) ?h3c10 ?h4c10 ?h5c10 ?h6c10 (by assumption) ?h8c10
            case hic10 => (simp only [List.getElem?_toArray, List.getElem?_cons_succ, List.getElem?_cons_zero]; rfl)
            case h3c10 => kernel_rfl
            case h4c10 => kernel_rfl
            case h6c10 => (refine Or.inl ⟨by rfl, ?_⟩; intro w hSw; (try dsimp only at hSw); (go_simp <;> with_reducible rfl))
            case h5c10 => exact fun _ _ _ h => h
            try simp only [Act.put, List.setIfInBounds_toArray, List.set_cons_zero, List.set_cons_succ]
            refine wpAnyH_take (i := 11) (oi := ?ooc11) (v := ?vvc11) ?hic11 (by kernel_rfl) ?h3c11 ?h4c11 ?h5c11 ?h6c11 (by assumption) ?h8c11
            case hic11 => (simp only [List.getElem?_toArray, List.getElem?_cons_succ, List.getElem?_cons_zero]; rfl)
            case h3c11 => kernel_rfl
            case h4c11 => kernel_rfl
            case h6c11 => (refine Or.inl ⟨by rfl, ?_⟩; intro w hSw; (try dsimp only at hSw); (go_simp <;> with_reducible rfl))
            case h5c11 => exact fun _ _ _ h => h
            try simp only [Act.put, List.setIfInBounds_toArray, List.set_cons_zero, List.set_cons_succ]
            refine wpAnyH_take (i := 12) (oi := ?ooc12) (v := ?vvc12) ?hic12 (by kernel_rfl) ?h3c12 ?h4c12 ?h5c12 ?h6c12 (by assumption) ?h8c12
            case hic12 => (simp only [List.getElem?_toArray, List.getElem?_cons_succ, List.getElem?_cons_zero]; rfl)
            case h3c12 => kernel_rfl
            case h4c12 => kernel_rfl
            case h6c12 => (refine Or.inl ⟨by rfl, ?_⟩; intro w hSw; (try dsimp only at hSw); (go_simp <;> with_reducible rfl))
            case h5c12 => exact fun _ _ _ h => h
            try simp only [Act.put, List.setIfInBounds_toArray, List.set_cons_zero, List.set_cons_succ]
            refine wpAnyH_take (i := 13) (oi := ?ooc13) (v := ?vvc13) ?hic13 (by kernel_rfl) ?h3c13 ?h4c13 ?h5c13 ?h6c13 (by assumption) ?h8c13
            case hic13 => (simp only [List.getElem?_toArray, List.getElem?_cons_succ, List.getElem?_cons_zero]; rfl)
            case h3c13 => kernel_rfl
            case h4c13 => kernel_rfl
            case h6c13 => (refine Or.inl ⟨by rfl, ?_⟩; intro w hSw; (try dsimp only at hSw); (go_simp <;> with_reducible rfl))
            case h5c13 => exact fun _ _ _ h => h
            try simp only [Act.put, List.setIfInBounds_toArray, List.set_cons_zero, List.set_cons_succ]
            refine wpAnyH_take (i := 14) (oi := ?ooc14) (v := ?vvc14) ?hic14 (by kernel_rfl) ?h3c14 ?h4c14 ?h5c14 ?h6c14 (by assumption) ?h8c14
            case hic14 => (simp only [List.getElem?_toArray, List.getElem?_cons_succ, List.getElem?_cons_zero]; rfl)
            case h3c14 => kernel_rfl
            case h4c14 => kernel_rfl
            case h6c14 => (refine Or.inl ⟨by rfl, ?_⟩; intro w hSw; (try dsimp only at hSw); (go_simp <;> with_reducible rfl))
            case h5c14 => exact fun _ _ _ h => h
            try simp only [Act.put, List.setIfInBounds_toArray, List.set_cons_zero, List.set_cons_succ]
            refine wpAnyH_take (i := 15) (oi := ?ooc15) (v := ?vvc15) ?hic15 (by kernel_rfl) ?h3c15 ?h4c15 ?h5c15 ?h6c15 (by assumption) ?h8c15
            case hic15 => (simp only [List.getElem?_toArray, List.getElem?_cons_succ, List.getElem?_cons_zero]; rfl)
            case h3c15 => kernel_rfl
            case h4c15 => kernel_rfl
            case h6c15 => (refine Or.inl ⟨by rfl, ?_⟩; intro w hSw; (try dsimp only at hSw); (go_simp <;> with_reducible rfl))
            case h5c15 => exact fun _ _ _ h => h
            try simp only [Act.put, List.setIfInBounds_toArray, List.set_cons_zero, List.set_cons_succ]
            refine wpAnyH_take (i := 16) (oi := ?ooc16) (v := ?vvc16) ?hic16 (by kernel_rfl) ?h3c16 ?h4c16 ?h5c16 ?h6c16 (by assumption) ?h8c16
            case hic16 => (simp only [List.getElem?_toArray, List.getElem?_cons_succ, List.getElem?_cons_zero]; rfl)
            case h3c16 => kernel_rfl
            case h4c16 => kernel_rfl
            case h6c16 => (refine Or.inl ⟨by rfl, ?_⟩; intro w hSw; (try dsimp only at hSw); (go_simp <;> with_reducible rfl))
            case h5c16 => exact fun _ _ _ h => h
            try simp only [Act.put, List.setIfInBounds_toArray, List.set_cons_zero, List.set_cons_succ]
            refine wpAnyH_take (i := 17) (oi := ?ooc17) (v := ?vvc17) ?hic17 (by kernel_rfl) ?h3c17 ?h4c17 ?h5c17 ?h6c17 (by assumption) ?h8c17
            case hic17 => (simp only [List.getElem?_toArray, List.getElem?_cons_succ, List.getElem?_cons_zero]; rfl)
            case h3c17 => kernel_rfl
            case h4c17 => kernel_rfl
            case h6c17 => (refine Or.inl ⟨by rfl, ?_⟩; intro w hSw; (try dsimp only at hSw); (go_simp <;> with_reducible rfl))
            case h5c17 => exact fun _ _ _ h => h
            try simp only [Act.put, List.setIfInBounds_toArray, List.set_cons_zero, List.set_cons_succ]
            refine wpAnyH_take (i := 18) (oi := ?ooc18) (v := ?vvc18) ?hic18 (by kernel_rfl) ?h3c18 ?h4c18 ?h5c18 ?h6c18 (by assumption) ?h8c18
            case hic18 => (simp only [List.getElem?_toArray, List.getElem?_cons_succ, List.getElem?_cons_zero]; rfl)
            case h3c18 => kernel_rfl
            case h4c18 => kernel_rfl
            case h6c18 => (refine Or.inl ⟨by rfl, ?_⟩; intro w hSw; (try dsimp only at hSw); (go_simp <;> with_reducible rfl))
            case h5c18 => exact fun _ _ _ h => h
            try simp only [Act.put, List.setIfInBounds_toArray, List.set_cons_zero, List.set_cons_succ]
            refine wpAnyH_take (i := 19) (oi := ?ooc19) (v := ?vvc19) ?hic19 (by kernel_rfl) ?h3c19 ?h4c19 ?h5c19 ?h6c19 (by assumption) ?h8c19
            case hic19 => (simp only [List.getElem?_toArray, List.getElem?_cons_succ, List.getElem?_cons_zero]; rfl)
            case h3c19 => kernel_rfl
            case h4c19 => kernel_rfl
            case h6c19 => (refine Or.inl ⟨by rfl, ?_⟩; intro w hSw; (try dsimp only at hSw); (go_simp <;> with_reducible rfl))
            case h5c19 => exact fun _ _ _ h => h
            try simp only [Act.put, List.setIfInBounds_toArray, List.set_cons_zero, List.set_cons_succ]
            refine wpAnyH_take (i := 20) (oi := ?ooc20) (v := ?vvc20) ?hic20 (by kernel_rfl) ?h3c20 ?h4c20 ?h5c20 ?h6c20 (by assumption) ?h8c20
            case hic20 => (simp only [List.getElem?_toArray, List.getElem?_cons_succ, List.getElem?_cons_zero]; rfl)
            case h3c20 => kernel_rfl
            case h4c20 => kernel_rfl
            case h6c20 => (refine Or.inl ⟨by rfl, ?_⟩; intro w hSw; (try dsimp only at hSw); (go_simp <;> with_reducible rfl))
            case h5c20 => exact fun _ _ _ h => h
            try simp only [Act.put, List.setIfInBounds_toArray, List.set_cons_zero, List.set_cons_succ]
            refine wpAnyH_take (i := 21) (oi := ?ooc21) (v := ?vvc21) ?hic21 (by kernel_rfl) ?h3c21 ?h4c21 ?h5c21 ?h6c21 (by assumption) ?h8c21
            case hic21 => (simp only [List.getElem?_toArray, List.getElem?_cons_succ, List.getElem?_cons_zero]; rfl)
            case h3c21 => kernel_rfl
            case h4c21 => kernel_rfl
            case h6c21 => (refine Or.inl ⟨by rfl, ?_⟩; intro w hSw; (try dsimp only at hSw); (go_simp <;> with_reducible rfl))
            case h5c21 => exact fun _ _ _ h => h
            try simp only [Act.put, List.setIfInBounds_toArray, List.set_cons_zero, List.set_cons_succ]
            refine wpAnyH_take (i := 22) (oi := ?ooc22) (v := ?vvc22) ?hic22 (by kernel_rfl) ?h3c22 ?h4c22 ?h5c22 ?h6c22 (by assumption) ?h8c22
            case hic22 => (simp only [List.getElem?_toArray, List.getElem?_cons_succ, List.getElem?_cons_zero]; rfl)
            case h3c22 => kernel_rfl
            case h4c22 => kernel_rfl
            case h6c22 => (refine Or.inl ⟨by rfl, ?_⟩; intro w hSw; (try dsimp only at hSw); (go_simp <;> with_reducible rfl))
            case h5c22 => exact fun _ _ _ h => h
            try simp only [Act.put, List.setIfInBounds_toArray, List.set_cons_zero, List.set_cons_succ]
            refine wpAnyH_take (i := 24) (oi := ?ooc24) (v := ?vvc24) ?hic24 (by kernel_rfl) ?h3c24 ?h4c24 ?h5c24 ?h6c24 (by assumption) ?h8c24
            case hic24 => (simp only [List.getElem?_toArray, List.getElem?_cons_succ, List.getElem?_cons_zero]; rfl)
            case h3c24 => kernel_rfl
            case h4c24 => kernel_rfl
            case h6c24 => (refine Or.inl ⟨by rfl, ?_⟩; intro w hSw; (try dsimp only at hSw); (go_simp <;> with_reducible rfl))
            case h5c24 => exact fun _ _ _ h => h
            try simp only [Act.put, List.setIfInBounds_toArray, List.set_cons_zero, List.set_cons_succ]
            refine wpAnyH_take (i := 25) (oi := ?ooc25) (v := ?vvc25) ?hic25 (by kernel_rfl) ?h3c25 ?h4c25 ?h5c25 ?h6c25 (by assumption) ?h8c25
            case hic25 => (simp only [List.getElem?_toArray, List.getElem?_cons_succ, List.getElem?_cons_zero]; rfl)
            case h3c25 => kernel_rfl
            case h4c25 => kernel_rfl
            case h6c25 => (refine Or.inl ⟨by rfl, ?_⟩; intro w hSw; (try dsimp only at hSw); (go_simp <;> with_reducible rfl))
            case h5c25 => exact fun _ _ _ h => h
            try simp only [Act.put, List.setIfInBounds_toArray, List.set_cons_zero, List.set_cons_succ]
            refine wpAnyH_take (i := 26) (oi := ?ooc26) (v := ?vvc26) ?hic26 (by kernel_rfl) ?h3c26 ?h4c26 ?h5c26 ?h6c26 (by assumption) ?h8c26
            case hic26 => (simp only [List.getElem?_toArray, List.getElem?_cons_succ, List.getElem?_cons_zero]; rfl)
            case h3c26 => kernel_rfl
            case h4c26 => kernel_rfl
            case h6c26 => (refine Or.inl ⟨by rfl, ?_⟩; intro w hSw; (try dsimp only at hSw); (go_simp <;> with_reducible rfl))
            case h5c26 => exact fun _ _ _ h => h
            try simp only [Act.put, List.setIfInBounds_toArray, List.set_cons_zero, List.set_cons_succ]
            refine wpAnyH_take (i := 27) (oi := ?ooc27) (v := ?vvc27) ?hic27 (by kernel_rfl) ?h3c27 ?h4c27 ?h5c27 ?h6c27 (by assumption) ?h8c27
            case hic27 => (simp only [List.getElem?_toArray, List.getElem?_cons_succ, List.getElem?_cons_zero]; rfl)
            case h3c27 => kernel_rfl
            case h4c27 => kernel_rfl
            case h6c27 => (refine Or.inl ⟨by rfl, ?_⟩; intro w hSw; (try dsimp only at hSw); (go_simp <;> with_reducible rfl))
            case h5c27 => exact fun _ _ _ h => h
            try simp only [Act.put, List.setIfInBounds_toArray, List.set_cons_zero, List.set_cons_succ]
            refine wpAnyH_take (i := 28) (oi := ?ooc28) (v := ?vvc28) ?hic28 (by kernel_rfl) ?h3c28 ?h4c28 ?h5c28 ?h6c28 (by assumption) ?h8c28
            case hic28 => (simp only [List.getElem?_toArray, List.getElem?_cons_succ, List.getElem?_cons_zero]; rfl)
            case h3c28 => kernel_rfl
            case h4c28 => kernel_rfl
            case h6c28 => (refine Or.inl ⟨by rfl, ?_⟩; intro w hSw; (try dsimp only at hSw); (go_simp <;> with_reducible rfl))
            case h5c28 => exact fun _ _ _ h => h
            try simp only [Act.put, List.setIfInBounds_toArray, List.set_cons_zero, List.set_cons_succ]
            refine wpAnyH_ready (rs := [23]) (by kernel_rfl) (by simp) (AllReadyH.cons (o := ?ooc23) ?hic23 (fun K hK => ?hkc23) AllReadyH.nil)
            rotate_left
            case hic23 => (simp only [List.getElem?_toArray, List.getElem?_cons_succ, List.getElem?_cons_zero]; rfl)
            (rw [if_pos (by rfl)]; go_simp; refine (CO _ (bel_tr HE.out hHeld.2)).mono ?_; rintro e W5 ⟨rfl, hb5⟩; go_wp2_with fail; refine hK.out _ _ (kp3 hb5 hHeld) (fun hHeld => ?_); clear hK K)
            try simp only [Act.put, List.setIfInBounds_toArray, List.set_cons_zero, List.set_cons_succ]
            refine wpAnyH_take (i := 29) (oi := ?ooc29) (v := ?vvc29) ?hic29 (by kernel_rfl) ?h3c29 ?h4c29 ?h5c29 ?h6c29 (by assumption) ?h8c29
            case hic29 => (simp only [List.getElem?_toArray, List.getElem?_cons_succ, List.getElem?_cons_zero]; rfl)
            case h3c29 => kernel_rfl
            case h4c29 => kernel_rfl
            case h6c29 => (refine Or.inl ⟨by rfl, ?_⟩; intro w hSw; (try dsimp only at hSw); (go_simp <;> with_reducible rfl))
            case h5c29 => exact fun _ _ _ h => h
            try simp only [Act.put, List.setIfInBounds_toArray, List.set_cons_zero, List.set_cons_succ]
            refine wpAnyH_take (i := 30) (oi := ?ooc30) (v := ?vvc30) ?hic30 (by kernel_rfl) ?h3c30 ?h4c30 ?h5c30 ?h6c30 (by assumption) ?h8c30
            case hic30 => (simp only [List.getElem?_toArray, List.getElem?_cons_succ, List.getElem?_cons_zero]; rfl)
            case h3c30 => kernel_rfl
            case h4c30 => kernel_rfl
            case h6c30 => (refine Or.inl ⟨by rfl, ?_⟩; intro w hSw; (try dsimp only at hSw); (go_simp <;> with_reducible rfl))
            case h5c30 => exact fun _ _ _ h => h
            try simp only [Act.put, List.setIfInBounds_toArray, List.set_cons_zero, List.set_cons_succ]
            refine wpAnyH_done (by kernel_rfl) ?_ _
            have B := bel_tr HB.out (And.right (by assumption))
            have E := bel_tr HE.out (And.right (by assumption))
            have F := bel_tr HF.out (And.right (by assumption))
            go_wp2_with fail
            go_roundw
            case rel => exact ⟨k + 1, by omega, by go_num, B, E, F⟩
            case measure => simp [intOf]; omega
      · obtain rfl : k = hs.length := by omega
        clear HSO
        go_wp2_with fail
        refine (eqHd _ _ cb cp _ _ (hs_below HBB.out F) (hs_below HI2.out E) n1).mono ?_
        rintro e u ⟨rfl, C⟩
        replace B := bel_tr B C
        replace E := bel_tr E C
        clear C
        go_wp2_with fail
        refine (HVL _ E).mono ?_
        rintro e u ⟨rfl, C⟩
        replace B := bel_tr B C
        clear C
        go_wp2_with fail
        go_ret
        exact ⟨rfl, B⟩

set_option maxRecDepth 100000 in
theorem lifted (os : Os) (started : os.Started) (H : Type) (enc : TypeId × Value → H) :
    ReturnsInHanded {} Try.checked os 5 .any (Rows.fnSellShareSpec.pre6 enc Try.prog Try.f5 Rows.fnSellShareRow.domain false) (Rows.fnSellShareSpec.post enc Try.prog Try.f5 false true false false) := by
  refine returnsInHanded_of_change (C := Try.checked) own started (by kernel_rfl) Try.func5
    (ChangeSpec.witness6 (enc := enc) (C := Try.checked) false ⟨#[], #[.slice none 0 0], []⟩ 8 (by kernel_rfl) (by kernel_rfl) (by kernel_rfl) (by kernel_rfl)) ?_
  intro W base args ds gs before hval0 hW hcnd _
  have hval : ∀ (j : Nat) t v, Try.f5.params[j]? = some t → args[j]? = some v → Value.okWide Try.prog W .any base t v := hval0
  have hW' := hW
  obtain ⟨p, q, hA0, hV, rfl, hfz, hnd⟩ := hW
  have hA : DataW.TrodAll enc Try.prog W 0 (fun _ => true) true Try.f5.params.toList args.toList ds p := hA0
  rw [Try.params5] at hA hval
  obtain ⟨v0, vs0, e0, es0, p0, q0, hargs, rfl, rfl, h0, r0⟩ := trodAll_cons hA
  obtain ⟨rfl, rfl, rfl⟩ := trodAll_nil r0
  obtain rfl : args = #[v0] := by cases args; simp_all
  obtain ⟨rfl, rfl⟩ := trodVars_none hV
  have k0 := h0
  have lt0 : ∀ x ∈ p0, x.block < W.heap.size := by obtain ⟨m, hm⟩ := k0; exact DataW.trod_lt m _ _ _ hm
  obtain ⟨a0, len0, cap0, rfl⟩ := okWide_slice Try.underlying22 (hval 0 22 v0 rfl rfl)
  obtain ⟨z0, w0⟩ : ∃ zs, IsRow .u8 W a0 len0 cap0 zs := by
    obtain ⟨fuel, hf⟩ := h0
    rcases open_ints Try.underlying22 Try.underlying5 (by kernel_rfl) hf with ⟨hcs, _⟩ | ⟨x, l, c, zs, hcs, _, hl, hm, hz, _, hcell, hwz⟩
    · simp [Value.cells] at hcs
      obtain ⟨rfl, rfl, rfl⟩ := hcs
      exact ⟨[], .inl ⟨rfl, rfl, rfl, rfl⟩⟩
    · simp [Value.cells] at hcs
      obtain ⟨rfl, rfl, rfl⟩ := hcs
      exact ⟨zs, .inr ⟨_, rfl, hl, hm, by simpa using hz, hcell, hwz⟩⟩
  clear hA0 hval0
  refine (walk a0 len0 cap0 z0 W w0).mono fun e W' ⟨he, bel⟩ => ?_
  subst he
  exact ⟨_, rfl, _, _, _, [], _, [], hW', trodAll_mk1 (shut_bool Try.underlying4 _), (trodAll_cons_mk (Below.trod laidOut (by kernel_rfl) (of_decide_eq_true (by kernel_rfl)) k0 bel lt0) trodAll_mk0), rfl, bel.frame _, fun h => by cases h⟩

theorem over : Rows.fnSellShareRow.holds Try.pinned (OpenSpec.ofChange Rows.fnSellShareSpec) :=
  OpenClaim.holds_of_wide 5 Try.f5 rfl rfl rfl rfl rfl rfl rfl ⟨rfl, rfl, rfl, rfl, rfl⟩ rfl rfl rfl rfl rfl (by kernel_rfl) Try.func5 (by kernel_rfl)
    (of_decide_eq_true (by kernel_rfl)) (by unfold Func.isWrapper; first | (rw [if_pos (by decide +kernel)]; kernel_rfl) | (rw [if_neg (by decide +kernel)]; exact ⟨rfl, rfl⟩))
    (fun os started H enc _ => lifted os started H enc)

end Go.Proofs.Ytppnhhnilnikfaa.fnSellShare
namespace Go.Proofs.Ytppnhhnilnikfaa
/-- the statement -/
theorem fnSellShare_holds : Rows.FnSellShareSaid := fnSellShare.over
end Go.Proofs.Ytppnhhnilnikfaa
