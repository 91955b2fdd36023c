/- For every input the law answers true, and its argument reads afterwards as before: turns follow each other. No condition. -/
import Derived.Test.YthkeopkehjkpeaaRows
import Derived.Test.YthkeopkehjkpeaaDrawTm
import Derived.Test.YthkeopkehjkpeaaTurnQ
import Derived.Test.YthkeopkehjkpeaaTurnL
import Derived.WalkKit
import Derived.ProofKit
import Derived.OpenShut
import Derived.ShutString
import Derived.ChangeOld
import Derived.Below
import Derived.Lib.SmallJoins
namespace Go.Proofs.Ythkeopkehjkpeaa.fnStartOf
open Go.ChangeShapes Go.WideShapes Go.ChangeAt Go.RowKit Go.Joins
open Go.ChangeMaps (open_string shut_string)
set_option linter.unusedVariables false

theorem own : ownKnob Try.prog.godebug = none := by kernel_rfl
theorem laidOut : laidOutB Try.prog = true := by kernel_rfl

set_option maxRecDepth 100000 in
set_option maxHeartbeats 6000000 in
theorem walk (a0 : Option Addr) (len0 cap0 : Nat) (z0 : List Int) (w : World) (w0 : IsRow .u8 w a0 len0 cap0 z0) :
    Calls Try.prog 6 #[.slice a0 len0 cap0] w fun e w' => e = .returned (.bool true) ∧ Below w.heap.size w w' := by
  by_cases big : (1048576 : Int) < (len0 : Int)
  · go_enter Try.func6, Try.ntmps6
    go_wp2
    go_ret
    exact ⟨rfl, Below.refl _ _⟩
  go_enter Try.func6, Try.ntmps6
  go_wp2_with fail
  refine (drawStartOf a0 len0 cap0 z0 _ w0).mono ?_
  rintro e u1 ⟨b, cp, xs, i, rfl, hl6, hlc, hi, hz, i0, i1, B⟩
  clear w0 big
  have n1 : xs.length ≤ 1048576 := by omega
  have HI := Lib.hid hi
  have HZ := Lib.hid hz
  have D := Below.refl u1.heap.size u1
  clear hi hz
  by_cases hv : startV xs i = -1
  · have HVV := Lib.hid hv
    have CIStartOf : ∀ W, Below u1.heap.size u1 W → Calls Try.prog 21 #[.slice b xs.length cp, .int .i64 i] W fun e w' => e = .returned (.int .i64 (-1)) ∧ Below W.heap.size W w' := fun W hW => by
      have := iStartOf b cp xs i W (tn_below HI.out hW) n1 hlc (wf_small (by omega))
      rw [HVV.out] at this; exact this
    have CSStartOf : ∀ W, Below u1.heap.size u1 W → Calls Try.prog 27 #[.slice b xs.length cp, .int .i64 i] W fun e w' => e = .returned (.int .i64 (-1)) ∧ Below W.heap.size W w' := fun W hW => by
      have := sStartOf b cp xs i W (tn_below HI.out hW) n1 (wf_small (by omega)) hlc
      rw [HVV.out] at this; exact this
    clear hv
    go_wp2_with fail
    refine (CIStartOf _ D).mono ?_
    rintro e u ⟨rfl, C⟩
    replace B := bel_tr B C
    replace D := bel_tr D C
    clear C
    go_wp2_with fail
    refine (CSStartOf _ D).mono ?_
    rintro e u ⟨rfl, C⟩
    replace B := bel_tr B C
    replace D := bel_tr D C
    clear C
    go_wp2_with fail
    refine (CSStartOf _ D).mono ?_
    rintro e u ⟨rfl, C⟩
    replace B := bel_tr B C
    replace D := bel_tr D C
    clear C
    go_wp2_with fail
    go_ret
    exact ⟨rfl, B⟩
  · obtain ⟨k, rfl, hk, ok, hs⟩ := start_yes hv
    clear hv
    have hk0 := sumT_pos k xs (fun j hj => (vt_hz (vt_is ok).2.2.1 j (by omega)).1)
    have hkn : k < xs.length → startV xs ((k + 1 : Nat) : Int) = if k + 1 < xs.length then sumT (xs.take (k + 1)) else -1 := fun _ => start_at ok (k + 1)
    have hss := sumT_succ hk
    have hb := (sumT_bd k (by omega) (fun j hj => (vt_is ok).2.2.1 j (by omega))).2
    have hy := (okT_iff xs k).1 ((vt_is ok).2.2.1 k hk)
    obtain ⟨s, hS⟩ : ∃ s, sumT (xs.take k) = s := ⟨_, rfl⟩
    rw [hS] at hs hk0 hss hb
    have CIStartOf : ∀ W, Below u1.heap.size u1 W → Calls Try.prog 21 #[.slice b xs.length cp, .int .i64 (k : Int)] W fun e w' => e = .returned (.int .i64 s) ∧ Below W.heap.size W w' := fun W hW => by
      have := iStartOf b cp xs ((k : Int)) W (tn_below HI.out hW) n1 hlc (wf_small (by omega))
      rw [hs] at this; exact this
    have CSStartOf : ∀ W, Below u1.heap.size u1 W → Calls Try.prog 27 #[.slice b xs.length cp, .int .i64 (k : Int)] W fun e w' => e = .returned (.int .i64 s) ∧ Below W.heap.size W w' := fun W hW => by
      have := sStartOf b cp xs ((k : Int)) W (tn_below HI.out hW) n1 (wf_small (by omega)) hlc
      rw [hs] at this; exact this
    have hcl : IsTn u1 b xs := HI.out
    rcases hcl with rfl | ⟨g, o, rfl, hc⟩
    · simp at hk
    have HC := Lib.hid hc
    clear hc
    have kx : (k : Int) < (xs.length : Int) := by omega
    have k0 : (0 : Int) ≤ (k : Int) := by omega
    have s0f : decide (s < 0) = false := decide_eq_false (by omega)
    have HSZ : Hid (k = 0 → s = 0) := fun e => by rw [← hS, e]; rfl
    clear hS hs
    go_wp2_with fail
    refine (CIStartOf _ D).mono ?_
    rintro e u ⟨rfl, C⟩
    replace B := bel_tr B C
    replace D := bel_tr D C
    clear C
    go_wp2_with fail
    refine (CSStartOf _ D).mono ?_
    rintro e u ⟨rfl, C⟩
    replace B := bel_tr B C
    replace D := bel_tr D C
    clear C
    go_wp2_with fail
    obtain ⟨n, hn⟩ : ∃ n, xs.length = n + 1 := ⟨xs.length - 1, by omega⟩
    have ew : IntKind.i64.wrap ((xs.length : Int) - 1) = (n : Int) := (wrap_small (by omega)).trans (by omega)
    have HN := Lib.hid hn
    by_cases hk00 : k = 0
    · obtain rfl := HSZ.out hk00
      have gk : decide (0 < k) = false := decide_eq_false (by omega)
      clear HSZ s0f
      by_cases hkn2 : k = n
      · subst hkn2
        clear hss hb hy hkn CSStartOf
        go_quiet (fail)
        go_wp2_with fail
        go_ret
        exact ⟨rfl, below_drewN B _⟩
      · have e7 : ((k : Int) == (n : Int)) = false := by simp; omega
        have e8 : (k == n) = false := by simp; omega
        have hk1 : k + 1 < xs.length := by omega
        have hv1 := hkn hk
        rw [if_pos hk1, hss] at hv1
        obtain ⟨c0, c1⟩ := tn_at HC.out D hk
        have hval : ∀ W, Below u1.heap.size u1 W → Calls Try.prog 21 #[.slice (some ⟨g, o, none⟩) xs.length cp, .int .i64 ((k : Int) + 1)] W fun e w' => e = .returned (.int .i64 (0 + (xs.getD k tn0).2)) ∧ Below W.heap.size W w' := fun W hW => by
          have := iStartOf (some ⟨g, o, none⟩) cp xs ((k : Int) + 1) W (tn_below HI.out hW) n1 hlc (wf_small (by omega))
          rw [show ((k : Int) + 1) = ((k + 1 : Nat) : Int) from by omega, hv1] at this
          rw [show ((k : Int) + 1) = ((k + 1 : Nat) : Int) from by omega]; exact this
        generalize xs.getD k tn0 = hh at c0 c1 hval hy
        obtain ⟨x, y⟩ := hh
        dsimp only at c0 c1 hval hy
        have w1 : IntKind.i64.wrap ((k : Int) + 1) = (k : Int) + 1 := wrap_small (by omega)
        have w2 : IntKind.i64.wrap (0 + y) = 0 + y := wrap_small (by omega)
        clear hss hb hkn hv1 CSStartOf CIStartOf hn hk00
        simp only [Int.zero_add] at hval w2
        have HB := Lib.hid B
        have HD := Lib.hid D
        clear B D
        refine wp_region_held_drew (S := (fun w' => w'.cell? ⟨g, o + k * 2 + 1, none⟩ = some (.int .i64 y) ∧ Below u.heap.size u w')) (by kernel_rfl) ?_ (fun hHeld => ?_)
        · exact ⟨c1, (Below.refl _ _).drew⟩
        refine wpAnyH_take (i := 0) (oi := ?ooa0) (v := ?vva0) ?hia0 (by kernel_rfl) ?h3a0 ?h4a0 ?h5a0 ?h6a0 (by assumption) ?h8a0
        case hia0 => (simp only [List.getElem?_toArray, List.getElem?_cons_succ, List.getElem?_cons_zero]; rfl)
        case h3a0 => kernel_rfl
        case h4a0 => kernel_rfl
        case h6a0 => (refine Or.inl ⟨by rfl, ?_⟩; intro w hSw; (try dsimp only at hSw); (go_simp <;> with_reducible rfl))
        case h5a0 => exact fun _ _ _ h => h
        try simp only [Act.put, List.setIfInBounds_toArray, List.set_cons_zero, List.set_cons_succ]
        refine wpAnyH_take (i := 1) (oi := ?ooa1) (v := ?vva1) ?hia1 (by kernel_rfl) ?h3a1 ?h4a1 ?h5a1 ?h6a1 (by assumption) ?h8a1
        case hia1 => (simp only [List.getElem?_toArray, List.getElem?_cons_succ, List.getElem?_cons_zero]; rfl)
        case h3a1 => kernel_rfl
        case h4a1 => kernel_rfl
        case h6a1 => (refine Or.inl ⟨by rfl, ?_⟩; intro w hSw; (try dsimp only at hSw); (go_simp <;> with_reducible rfl))
        case h5a1 => exact fun _ _ _ h => h
        try simp only [Act.put, List.setIfInBounds_toArray, List.set_cons_zero, List.set_cons_succ]
        refine wpAnyH_take (i := 2) (oi := ?ooa2) (v := ?vva2) ?hia2 (by kernel_rfl) ?h3a2 ?h4a2 ?h5a2 ?h6a2 (by assumption) ?h8a2
        case hia2 => (simp only [List.getElem?_toArray, List.getElem?_cons_succ, List.getElem?_cons_zero]; rfl)
        case h3a2 => kernel_rfl
        case h4a2 => kernel_rfl
        case h6a2 => (refine Or.inl ⟨by rfl, ?_⟩; intro w hSw; (try dsimp only at hSw); (go_simp <;> with_reducible rfl))
        case h5a2 => exact fun _ _ _ h => h
        try simp only [Act.put, List.setIfInBounds_toArray, List.set_cons_zero, List.set_cons_succ]
        refine wpAnyH_take (i := 3) (oi := ?ooa3) (v := ?vva3) ?hia3 (by kernel_rfl) ?h3a3 ?h4a3 ?h5a3 ?h6a3 (by assumption) ?h8a3
        case hia3 => (simp only [List.getElem?_toArray, List.getElem?_cons_succ, List.getElem?_cons_zero]; rfl)
        case h3a3 => kernel_rfl
        case h4a3 => kernel_rfl
        case h6a3 => (refine Or.inl ⟨by rfl, ?_⟩; intro w hSw; (try dsimp only at hSw); (go_simp <;> with_reducible rfl))
        case h5a3 => exact fun _ _ _ h => h
        try simp only [Act.put, List.setIfInBounds_toArray, List.set_cons_zero, List.set_cons_succ]
        refine wpAnyH_take (i := 4) (oi := ?ooa4) (v := ?vva4) ?hia4 (by kernel_rfl) ?h3a4 ?h4a4 ?h5a4 ?h6a4 (by assumption) ?h8a4
        case hia4 => (simp only [List.getElem?_toArray, List.getElem?_cons_succ, List.getElem?_cons_zero]; rfl)
        case h3a4 => kernel_rfl
        case h4a4 => kernel_rfl
        case h6a4 => (refine Or.inl ⟨by rfl, ?_⟩; intro w hSw; (try dsimp only at hSw); (go_simp <;> with_reducible rfl))
        case h5a4 => exact fun _ _ _ h => h
        try simp only [Act.put, List.setIfInBounds_toArray, List.set_cons_zero, List.set_cons_succ]
        refine wpAnyH_take (i := 5) (oi := ?ooa5) (v := ?vva5) ?hia5 (by kernel_rfl) ?h3a5 ?h4a5 ?h5a5 ?h6a5 (by assumption) ?h8a5
        case hia5 => (simp only [List.getElem?_toArray, List.getElem?_cons_succ, List.getElem?_cons_zero]; rfl)
        case h3a5 => kernel_rfl
        case h4a5 => kernel_rfl
        case h6a5 => (refine Or.inl ⟨by rfl, ?_⟩; intro w hSw; (try dsimp only at hSw); (go_simp <;> with_reducible rfl))
        case h5a5 => exact fun _ _ _ h => h
        try simp only [Act.put, List.setIfInBounds_toArray, List.set_cons_zero, List.set_cons_succ]
        refine wpAnyH_take (i := 6) (oi := ?ooa6) (v := ?vva6) ?hia6 (by kernel_rfl) ?h3a6 ?h4a6 ?h5a6 ?h6a6 (by assumption) ?h8a6
        case hia6 => (simp only [List.getElem?_toArray, List.getElem?_cons_succ, List.getElem?_cons_zero]; rfl)
        case h3a6 => kernel_rfl
        case h4a6 => kernel_rfl
        case h6a6 => (refine Or.inl ⟨by rfl, ?_⟩; intro w hSw; (try dsimp only at hSw); (go_simp <;> with_reducible rfl))
        case h5a6 => exact fun _ _ _ h => h
        try simp only [Act.put, List.setIfInBounds_toArray, List.set_cons_zero, List.set_cons_succ]
        refine wpAnyH_take (i := 7) (oi := ?ooa7) (v := ?vva7) ?hia7 (by kernel_rfl) ?h3a7 ?h4a7 ?h5a7 ?h6a7 (by assumption) ?h8a7
        case hia7 => (simp only [List.getElem?_toArray, List.getElem?_cons_succ, List.getElem?_cons_zero]; rfl)
        case h3a7 => kernel_rfl
        case h4a7 => kernel_rfl
        case h6a7 => (refine Or.inl ⟨by rfl, ?_⟩; intro w hSw; (try dsimp only at hSw); (go_simp <;> with_reducible rfl))
        case h5a7 => exact fun _ _ _ h => h
        try simp only [Act.put, List.setIfInBounds_toArray, List.set_cons_zero, List.set_cons_succ]
        refine wpAnyH_take (i := 8) (oi := ?ooa8) (v := ?vva8) ?hia8 (by kernel_rfl) ?h3a8 ?h4a8 ?h5a8 ?h6a8 (by assumption) ?h8a8
        case hia8 => (simp only [List.getElem?_toArray, List.getElem?_cons_succ, List.getElem?_cons_zero]; rfl)
        case h3a8 => kernel_rfl
        case h4a8 => kernel_rfl
        case h6a8 => (refine Or.inl ⟨by rfl, ?_⟩; intro w hSw; (try dsimp only at hSw); (go_simp <;> with_reducible rfl))
        case h5a8 => exact fun _ _ _ h => h
        try simp only [Act.put, List.setIfInBounds_toArray, List.set_cons_zero, List.set_cons_succ]
        refine wpAnyH_take (i := 9) (oi := ?ooa9) (v := ?vva9) ?hia9 (by kernel_rfl) ?h3a9 ?h4a9 ?h5a9 ?h6a9 (by assumption) ?h8a9
        case hia9 => (simp only [List.getElem?_toArray, List.getElem?_cons_succ, List.getElem?_cons_zero]; rfl)
        case h3a9 => kernel_rfl
        case h4a9 => kernel_rfl
        case h6a9 => (refine Or.inl ⟨by rfl, ?_⟩; intro w hSw; (try dsimp only at hSw); (go_simp <;> with_reducible rfl))
        case h5a9 => exact fun _ _ _ h => h
        try simp only [Act.put, List.setIfInBounds_toArray, List.set_cons_zero, List.set_cons_succ]
        refine wpAnyH_take (i := 10) (oi := ?ooa10) (v := ?vva10) ?hia10 (by kernel_rfl) ?h3a10 ?h4a10 ?h5a10 ?h6a10 (by assumption) ?h8a10
        case hia10 => (simp only [List.getElem?_toArray, List.getElem?_cons_succ, List.getElem?_cons_zero]; rfl)
        case h3a10 => kernel_rfl
        case h4a10 => kernel_rfl
        case h6a10 => (refine Or.inl ⟨by rfl, ?_⟩; intro w hSw; (try dsimp only at hSw); (go_simp <;> with_reducible rfl))
        case h5a10 => exact fun _ _ _ h => h
        try simp only [Act.put, List.setIfInBounds_toArray, List.set_cons_zero, List.set_cons_succ]
        refine wpAnyH_take (i := 11) (oi := ?ooa11) (v := ?vva11) ?hia11 (by kernel_rfl) ?h3a11 ?h4a11 ?h5a11 ?h6a11 (by assumption) ?h8a11
        case hia11 => (simp only [List.getElem?_toArray, List.getElem?_cons_succ, List.getElem?_cons_zero]; rfl)
        case h3a11 => kernel_rfl
        case h4a11 => kernel_rfl
        case h6a11 => (refine Or.inl ⟨by rfl, ?_⟩; intro w hSw; (try dsimp only at hSw); (go_simp <;> with_reducible rfl))
        case h5a11 => exact fun _ _ _ h => h
        try simp only [Act.put, List.setIfInBounds_toArray, List.set_cons_zero, List.set_cons_succ]
        refine wpAnyH_take (i := 12) (oi := ?ooa12) (v := ?vva12) ?hia12 (by kernel_rfl) ?h3a12 ?h4a12 ?h5a12 ?h6a12 (by assumption) ?h8a12
        case hia12 => (simp only [List.getElem?_toArray, List.getElem?_cons_succ, List.getElem?_cons_zero]; rfl)
        case h3a12 => kernel_rfl
        case h4a12 => kernel_rfl
        case h6a12 => (refine Or.inl ⟨by rfl, ?_⟩; intro w hSw; (try dsimp only at hSw); (go_simp <;> with_reducible rfl))
        case h5a12 => exact fun _ _ _ h => h
        try simp only [Act.put, List.setIfInBounds_toArray, List.set_cons_zero, List.set_cons_succ]
        refine wpAnyH_take (i := 13) (oi := ?ooa13) (v := ?vva13) ?hia13 (by kernel_rfl) ?h3a13 ?h4a13 ?h5a13 ?h6a13 (by assumption) ?h8a13
        case hia13 => (simp only [List.getElem?_toArray, List.getElem?_cons_succ, List.getElem?_cons_zero]; rfl)
        case h3a13 => kernel_rfl
        case h4a13 => kernel_rfl
        case h6a13 => (refine Or.inl ⟨by rfl, ?_⟩; intro w hSw; (try dsimp only at hSw); (go_simp <;> with_reducible rfl))
        case h5a13 => exact fun _ _ _ h => h
        try simp only [Act.put, List.setIfInBounds_toArray, List.set_cons_zero, List.set_cons_succ]
        refine wpAnyH_take (i := 14) (oi := ?ooa14) (v := ?vva14) ?hia14 (by kernel_rfl) ?h3a14 ?h4a14 ?h5a14 ?h6a14 (by assumption) ?h8a14
        case hia14 => (simp only [List.getElem?_toArray, List.getElem?_cons_succ, List.getElem?_cons_zero]; rfl)
        case h3a14 => kernel_rfl
        case h4a14 => kernel_rfl
        case h6a14 => (refine Or.inl ⟨by rfl, ?_⟩; intro w hSw; (try dsimp only at hSw); (go_simp <;> with_reducible rfl))
        case h5a14 => exact fun _ _ _ h => h
        try simp only [Act.put, List.setIfInBounds_toArray, List.set_cons_zero, List.set_cons_succ]
        refine wpAnyH_take (i := 15) (oi := ?ooa15) (v := ?vva15) ?hia15 (by kernel_rfl) ?h3a15 ?h4a15 ?h5a15 ?h6a15 (by assumption) ?h8a15
        case hia15 => (simp only [List.getElem?_toArray, List.getElem?_cons_succ, List.getElem?_cons_zero]; rfl)
        case h3a15 => kernel_rfl
        case h4a15 => kernel_rfl
        case h6a15 => (refine Or.inl ⟨by rfl, ?_⟩; intro w hSw; (try dsimp only at hSw); (go_simp <;> with_reducible rfl))
        case h5a15 => exact fun _ _ _ h => h
        try simp only [Act.put, List.setIfInBounds_toArray, List.set_cons_zero, List.set_cons_succ]
        refine wpAnyH_take (i := 17) (oi := ?ooa17) (v := ?vva17) ?hia17 (by kernel_rfl) ?h3a17 ?h4a17 ?h5a17 ?h6a17 (by assumption) ?h8a17
        case hia17 => (simp only [List.getElem?_toArray, List.getElem?_cons_succ, List.getElem?_cons_zero]; rfl)
        case h3a17 => kernel_rfl
        case h4a17 => kernel_rfl
        case h6a17 => (refine Or.inl ⟨by rfl, ?_⟩; intro w hSw; (try dsimp only at hSw); (go_simp <;> with_reducible rfl))
        case h5a17 => exact fun _ _ _ h => h
        try simp only [Act.put, List.setIfInBounds_toArray, List.set_cons_zero, List.set_cons_succ]
        refine wpAnyH_take (i := 18) (oi := ?ooa18) (v := ?vva18) ?hia18 (by kernel_rfl) ?h3a18 ?h4a18 ?h5a18 ?h6a18 (by assumption) ?h8a18
        case hia18 => (simp only [List.getElem?_toArray, List.getElem?_cons_succ, List.getElem?_cons_zero]; rfl)
        case h3a18 => kernel_rfl
        case h4a18 => kernel_rfl
        case h6a18 => (refine Or.inl ⟨by rfl, ?_⟩; intro w hSw; (try dsimp only at hSw); (go_simp <;> with_reducible rfl))
        case h5a18 => exact fun _ _ _ h => h
        try simp only [Act.put, List.setIfInBounds_toArray, List.set_cons_zero, List.set_cons_succ]
        refine wpAnyH_take (i := 19) (oi := ?ooa19) (v := ?vva19) ?hia19 (by kernel_rfl) ?h3a19 ?h4a19 ?h5a19 ?h6a19 (by assumption) ?h8a19
        case hia19 => (simp only [List.getElem?_toArray, List.getElem?_cons_succ, List.getElem?_cons_zero]; rfl)
        case h3a19 => kernel_rfl
        case h4a19 => kernel_rfl
        case h6a19 => (refine Or.inl ⟨by rfl, ?_⟩; intro w hSw; (try dsimp only at hSw); (go_simp <;> with_reducible rfl))
        case h5a19 => exact fun _ _ _ h => h
        try simp only [Act.put, List.setIfInBounds_toArray, List.set_cons_zero, List.set_cons_succ]
        refine wpAnyH_take (i := 20) (oi := ?ooa20) (v := ?vva20) ?hia20 (by kernel_rfl) ?h3a20 ?h4a20 ?h5a20 ?h6a20 (by assumption) ?h8a20
        case hia20 => (simp only [List.getElem?_toArray, List.getElem?_cons_succ, List.getElem?_cons_zero]; rfl)
        case h3a20 => kernel_rfl
        case h4a20 => kernel_rfl
        case h6a20 => (refine Or.inl ⟨by rfl, ?_⟩; intro w hSw; (try dsimp only at hSw); (go_simp <;> with_reducible rfl))
        case h5a20 => exact fun _ _ _ h => h
        try simp only [Act.put, List.setIfInBounds_toArray, List.set_cons_zero, List.set_cons_succ]
        refine wpAnyH_take (i := 21) (oi := ?ooa21) (v := ?vva21) ?hia21 (by kernel_rfl) ?h3a21 ?h4a21 ?h5a21 ?h6a21 (by assumption) ?h8a21
        case hia21 => (simp only [List.getElem?_toArray, List.getElem?_cons_succ, List.getElem?_cons_zero]; rfl)
        case h3a21 => kernel_rfl
        case h4a21 => kernel_rfl
        case h6a21 => (refine Or.inl ⟨by rfl, ?_⟩; intro w hSw; (try dsimp only at hSw); (go_simp <;> with_reducible rfl))
        case h5a21 => exact fun _ _ _ h => h
        try simp only [Act.put, List.setIfInBounds_toArray, List.set_cons_zero, List.set_cons_succ]
        refine wpAnyH_take (i := 22) (oi := ?ooa22) (v := ?vva22) ?hia22 (by kernel_rfl) ?h3a22 ?h4a22 ?h5a22 ?h6a22 (by assumption) ?h8a22
        case hia22 => (simp only [List.getElem?_toArray, List.getElem?_cons_succ, List.getElem?_cons_zero]; rfl)
        case h3a22 => kernel_rfl
        case h4a22 => kernel_rfl
        case h6a22 => (refine Or.inl ⟨by rfl, ?_⟩; intro w hSw; (try dsimp only at hSw); (go_simp <;> with_reducible rfl))
        case h5a22 => exact fun _ _ _ h => h
        try simp only [Act.put, List.setIfInBounds_toArray, List.set_cons_zero, List.set_cons_succ]
        refine wpAnyH_take (i := 23) (oi := ?ooa23) (v := ?vva23) ?hia23 (by kernel_rfl) ?h3a23 ?h4a23 ?h5a23 ?h6a23 (by assumption) ?h8a23
        case hia23 => (simp only [List.getElem?_toArray, List.getElem?_cons_succ, List.getElem?_cons_zero]; rfl)
        case h3a23 => kernel_rfl
        case h4a23 => kernel_rfl
        case h6a23 => (refine Or.inl ⟨by rfl, ?_⟩; intro w hSw; (try dsimp only at hSw); (go_simp <;> with_reducible rfl))
        case h5a23 => exact fun _ _ _ h => h
        try simp only [Act.put, List.setIfInBounds_toArray, List.set_cons_zero, List.set_cons_succ]
        refine wpAnyH_ready (rs := [16]) (by kernel_rfl) (by simp) (AllReadyH.cons (o := ?ooa16) ?hia16 (fun K hK => ?hka16) AllReadyH.nil)
        rotate_left
        case hia16 => (simp only [List.getElem?_toArray, List.getElem?_cons_succ, List.getElem?_cons_zero]; rfl)
        (rw [if_pos (by rfl)]; go_simp; refine (hval _ (bel_tr HD.out hHeld.2)).mono ?_; rintro e wq2 ⟨rfl, hb⟩; go_wp2_with fail; refine hK.out _ _ (keepOne hb hHeld) (fun hHeld => ?_); clear hK K)
        try simp only [Act.put, List.setIfInBounds_toArray, List.set_cons_zero, List.set_cons_succ]
        refine wpAnyH_take (i := 24) (oi := ?ooa24) (v := ?vva24) ?hia24 (by kernel_rfl) ?h3a24 ?h4a24 ?h5a24 ?h6a24 (by assumption) ?h8a24
        case hia24 => (simp only [List.getElem?_toArray, List.getElem?_cons_succ, List.getElem?_cons_zero]; rfl)
        case h3a24 => kernel_rfl
        case h4a24 => kernel_rfl
        case h6a24 => (refine Or.inl ⟨by rfl, ?_⟩; intro w hSw; (try dsimp only at hSw); (go_simp <;> with_reducible rfl))
        case h5a24 => exact fun _ _ _ h => h
        try simp only [Act.put, List.setIfInBounds_toArray, List.set_cons_zero, List.set_cons_succ]
        refine wpAnyH_take (i := 25) (oi := ?ooa25) (v := ?vva25) ?hia25 (by kernel_rfl) ?h3a25 ?h4a25 ?h5a25 ?h6a25 (by assumption) ?h8a25
        case hia25 => (simp only [List.getElem?_toArray, List.getElem?_cons_succ, List.getElem?_cons_zero]; rfl)
        case h3a25 => kernel_rfl
        case h4a25 => kernel_rfl
        case h6a25 => (refine Or.inl ⟨by rfl, ?_⟩; intro w hSw; (try dsimp only at hSw); (go_simp <;> with_reducible rfl))
        case h5a25 => exact fun _ _ _ h => h
        try simp only [Act.put, List.setIfInBounds_toArray, List.set_cons_zero, List.set_cons_succ]
        refine wpAnyH_take (i := 26) (oi := ?ooa26) (v := ?vva26) ?hia26 (by kernel_rfl) ?h3a26 ?h4a26 ?h5a26 ?h6a26 (by assumption) ?h8a26
        case hia26 => (simp only [List.getElem?_toArray, List.getElem?_cons_succ, List.getElem?_cons_zero]; rfl)
        case h3a26 => kernel_rfl
        case h4a26 => kernel_rfl
        case h6a26 => (refine Or.inl ⟨by rfl, ?_⟩; intro w hSw; (try dsimp only at hSw); (go_simp <;> with_reducible rfl))
        case h5a26 => exact fun _ _ _ h => h
        try simp only [Act.put, List.setIfInBounds_toArray, List.set_cons_zero, List.set_cons_succ]
        refine wpAnyH_take (i := 27) (oi := ?ooa27) (v := ?vva27) ?hia27 (by kernel_rfl) ?h3a27 ?h4a27 ?h5a27 ?h6a27 (by assumption) ?h8a27
        case hia27 => (simp only [List.getElem?_toArray, List.getElem?_cons_succ, List.getElem?_cons_zero]; rfl)
        case h3a27 => kernel_rfl
        case h4a27 => kernel_rfl
        case h6a27 => (refine Or.inl ⟨by rfl, ?_⟩; intro w hSw; (try dsimp only at hSw); (go_simp <;> with_reducible rfl))
        case h5a27 => exact fun _ _ _ h => h
        try simp only [Act.put, List.setIfInBounds_toArray, List.set_cons_zero, List.set_cons_succ]
        refine wpAnyH_done (by kernel_rfl) ?_ _
        have B := bel_tr HB.out (And.right (by assumption))
        go_wp2_with fail
        go_ret
        exact ⟨rfl, B⟩
    · have gk : decide (0 < k) = true := decide_eq_true (by omega)
      clear HSZ s0f
      by_cases hkn2 : k = n
      · subst hkn2
        clear hss hb hy hkn CSStartOf
        go_quiet (fail)
        go_wp2_with fail
        go_ret
        exact ⟨rfl, below_drewN B _⟩
      · have e7 : ((k : Int) == (n : Int)) = false := by simp; omega
        have e8 : (k == n) = false := by simp; omega
        have hk1 : k + 1 < xs.length := by omega
        have hv1 := hkn hk
        rw [if_pos hk1, hss] at hv1
        obtain ⟨c0, c1⟩ := tn_at HC.out D hk
        have hval : ∀ W, Below u1.heap.size u1 W → Calls Try.prog 21 #[.slice (some ⟨g, o, none⟩) xs.length cp, .int .i64 ((k : Int) + 1)] W fun e w' => e = .returned (.int .i64 (s + (xs.getD k tn0).2)) ∧ Below W.heap.size W w' := fun W hW => by
          have := iStartOf (some ⟨g, o, none⟩) cp xs ((k : Int) + 1) W (tn_below HI.out hW) n1 hlc (wf_small (by omega))
          rw [show ((k : Int) + 1) = ((k + 1 : Nat) : Int) from by omega, hv1] at this
          rw [show ((k : Int) + 1) = ((k + 1 : Nat) : Int) from by omega]; exact this
        generalize xs.getD k tn0 = hh at c0 c1 hval hy
        obtain ⟨x, y⟩ := hh
        dsimp only at c0 c1 hval hy
        have w1 : IntKind.i64.wrap ((k : Int) + 1) = (k : Int) + 1 := wrap_small (by omega)
        have w2 : IntKind.i64.wrap (s + y) = s + y := wrap_small (by omega)
        clear hss hb hkn hv1 CSStartOf CIStartOf hn
        have HB := Lib.hid B
        have HD := Lib.hid D
        clear B D
        refine wp_region_held_drew (S := (fun w' => w'.cell? ⟨g, o + k * 2 + 1, none⟩ = some (.int .i64 y) ∧ Below u.heap.size u w')) (by kernel_rfl) ?_ (fun hHeld => ?_)
        · exact ⟨c1, (Below.refl _ _).drew⟩
        refine wpAnyH_take (i := 0) (oi := ?oob0) (v := ?vvb0) ?hib0 (by kernel_rfl) ?h3b0 ?h4b0 ?h5b0 ?h6b0 (by assumption) ?h8b0
        case hib0 => (simp only [List.getElem?_toArray, List.getElem?_cons_succ, List.getElem?_cons_zero]; rfl)
        case h3b0 => kernel_rfl
        case h4b0 => kernel_rfl
        case h6b0 => (refine Or.inl ⟨by rfl, ?_⟩; intro w hSw; (try dsimp only at hSw); (go_simp <;> with_reducible rfl))
        case h5b0 => exact fun _ _ _ h => h
        try simp only [Act.put, List.setIfInBounds_toArray, List.set_cons_zero, List.set_cons_succ]
        refine wpAnyH_take (i := 1) (oi := ?oob1) (v := ?vvb1) ?hib1 (by kernel_rfl) ?h3b1 ?h4b1 ?h5b1 ?h6b1 (by assumption) ?h8b1
        case hib1 => (simp only [List.getElem?_toArray, List.getElem?_cons_succ, List.getElem?_cons_zero]; rfl)
        case h3b1 => kernel_rfl
        case h4b1 => kernel_rfl
        case h6b1 => (refine Or.inl ⟨by rfl, ?_⟩; intro w hSw; (try dsimp only at hSw); (go_simp <;> with_reducible rfl))
        case h5b1 => exact fun _ _ _ h => h
        try simp only [Act.put, List.setIfInBounds_toArray, List.set_cons_zero, List.set_cons_succ]
        refine wpAnyH_take (i := 2) (oi := ?oob2) (v := ?vvb2) ?hib2 (by kernel_rfl) ?h3b2 ?h4b2 ?h5b2 ?h6b2 (by assumption) ?h8b2
        case hib2 => (simp only [List.getElem?_toArray, List.getElem?_cons_succ, List.getElem?_cons_zero]; rfl)
        case h3b2 => kernel_rfl
        case h4b2 => kernel_rfl
        case h6b2 => (refine Or.inl ⟨by rfl, ?_⟩; intro w hSw; (try dsimp only at hSw); (go_simp <;> with_reducible rfl))
        case h5b2 => exact fun _ _ _ h => h
        try simp only [Act.put, List.setIfInBounds_toArray, List.set_cons_zero, List.set_cons_succ]
        refine wpAnyH_take (i := 3) (oi := ?oob3) (v := undef) ?hib3 (by kernel_rfl) ?h3b3 ?h4b3 ?h5b3 ?h6b3 (by assumption) ?h8b3
        case hib3 => (simp only [List.getElem?_toArray, List.getElem?_cons_succ, List.getElem?_cons_zero]; rfl)
        case h3b3 => kernel_rfl
        case h4b3 => kernel_rfl
        case h6b3 => exact Or.inr ⟨by rfl, rfl⟩
        case h5b3 => exact fun _ _ _ h => h
        try simp only [Act.put, List.setIfInBounds_toArray, List.set_cons_zero, List.set_cons_succ]
        refine wpAnyH_take (i := 4) (oi := ?oob4) (v := undef) ?hib4 (by kernel_rfl) ?h3b4 ?h4b4 ?h5b4 ?h6b4 (by assumption) ?h8b4
        case hib4 => (simp only [List.getElem?_toArray, List.getElem?_cons_succ, List.getElem?_cons_zero]; rfl)
        case h3b4 => kernel_rfl
        case h4b4 => kernel_rfl
        case h6b4 => exact Or.inr ⟨by rfl, rfl⟩
        case h5b4 => exact fun _ _ _ h => h
        try simp only [Act.put, List.setIfInBounds_toArray, List.set_cons_zero, List.set_cons_succ]
        refine wpAnyH_take (i := 5) (oi := ?oob5) (v := ?vvb5) ?hib5 (by kernel_rfl) ?h3b5 ?h4b5 ?h5b5 ?h6b5 (by assumption) ?h8b5
        case hib5 => (simp only [List.getElem?_toArray, List.getElem?_cons_succ, List.getElem?_cons_zero]; rfl)
        case h3b5 => kernel_rfl
        case h4b5 => kernel_rfl
        case h6b5 => (refine Or.inl ⟨by rfl, ?_⟩; intro w hSw; (try dsimp only at hSw); (go_simp <;> with_reducible rfl))
        case h5b5 => exact fun _ _ _ h => h
        try simp only [Act.put, List.setIfInBounds_toArray, List.set_cons_zero, List.set_cons_succ]
        refine wpAnyH_take (i := 6) (oi := ?oob6) (v := ?vvb6) ?hib6 (by kernel_rfl) ?h3b6 ?h4b6 ?h5b6 ?h6b6 (by assumption) ?h8b6
        case hib6 => (simp only [List.getElem?_toArray, List.getElem?_cons_succ, List.getElem?_cons_zero]; rfl)
        case h3b6 => kernel_rfl
        case h4b6 => kernel_rfl
        case h6b6 => (refine Or.inl ⟨by rfl, ?_⟩; intro w hSw; (try dsimp only at hSw); (go_simp <;> with_reducible rfl))
        case h5b6 => exact fun _ _ _ h => h
        try simp only [Act.put, List.setIfInBounds_toArray, List.set_cons_zero, List.set_cons_succ]
        refine wpAnyH_take (i := 7) (oi := ?oob7) (v := ?vvb7) ?hib7 (by kernel_rfl) ?h3b7 ?h4b7 ?h5b7 ?h6b7 (by assumption) ?h8b7
        case hib7 => (simp only [List.getElem?_toArray, List.getElem?_cons_succ, List.getElem?_cons_zero]; rfl)
        case h3b7 => kernel_rfl
        case h4b7 => kernel_rfl
        case h6b7 => (refine Or.inl ⟨by rfl, ?_⟩; intro w hSw; (try dsimp only at hSw); (go_simp <;> with_reducible rfl))
        case h5b7 => exact fun _ _ _ h => h
        try simp only [Act.put, List.setIfInBounds_toArray, List.set_cons_zero, List.set_cons_succ]
        refine wpAnyH_take (i := 8) (oi := ?oob8) (v := ?vvb8) ?hib8 (by kernel_rfl) ?h3b8 ?h4b8 ?h5b8 ?h6b8 (by assumption) ?h8b8
        case hib8 => (simp only [List.getElem?_toArray, List.getElem?_cons_succ, List.getElem?_cons_zero]; rfl)
        case h3b8 => kernel_rfl
        case h4b8 => kernel_rfl
        case h6b8 => (refine Or.inl ⟨by rfl, ?_⟩; intro w hSw; (try dsimp only at hSw); (go_simp <;> with_reducible rfl))
        case h5b8 => exact fun _ _ _ h => h
        try simp only [Act.put, List.setIfInBounds_toArray, List.set_cons_zero, List.set_cons_succ]
        refine wpAnyH_take (i := 9) (oi := ?oob9) (v := ?vvb9) ?hib9 (by kernel_rfl) ?h3b9 ?h4b9 ?h5b9 ?h6b9 (by assumption) ?h8b9
        case hib9 => (simp only [List.getElem?_toArray, List.getElem?_cons_succ, List.getElem?_cons_zero]; rfl)
        case h3b9 => kernel_rfl
        case h4b9 => kernel_rfl
        case h6b9 => (refine Or.inl ⟨by rfl, ?_⟩; intro w hSw; (try dsimp only at hSw); (go_simp <;> with_reducible rfl))
        case h5b9 => exact fun _ _ _ h => h
        try simp only [Act.put, List.setIfInBounds_toArray, List.set_cons_zero, List.set_cons_succ]
        refine wpAnyH_take (i := 10) (oi := ?oob10) (v := ?vvb10) ?hib10 (by kernel_rfl) ?h3b10 ?h4b10 ?h5b10 ?h6b10 (by assumption) ?h8b10
        case hib10 => (simp only [List.getElem?_toArray, List.getElem?_cons_succ, List.getElem?_cons_zero]; rfl)
        case h3b10 => kernel_rfl
        case h4b10 => kernel_rfl
        case h6b10 => (refine Or.inl ⟨by rfl, ?_⟩; intro w hSw; (try dsimp only at hSw); (go_simp <;> with_reducible rfl))
        case h5b10 => exact fun _ _ _ h => h
        try simp only [Act.put, List.setIfInBounds_toArray, List.set_cons_zero, List.set_cons_succ]
        refine wpAnyH_take (i := 11) (oi := ?oob11) (v := ?vvb11) ?hib11 (by kernel_rfl) ?h3b11 ?h4b11 ?h5b11 ?h6b11 (by assumption) ?h8b11
        case hib11 => (simp only [List.getElem?_toArray, List.getElem?_cons_succ, List.getElem?_cons_zero]; rfl)
        case h3b11 => kernel_rfl
        case h4b11 => kernel_rfl
        case h6b11 => (refine Or.inl ⟨by rfl, ?_⟩; intro w hSw; (try dsimp only at hSw); (go_simp <;> with_reducible rfl))
        case h5b11 => exact fun _ _ _ h => h
        try simp only [Act.put, List.setIfInBounds_toArray, List.set_cons_zero, List.set_cons_succ]
        refine wpAnyH_take (i := 12) (oi := ?oob12) (v := ?vvb12) ?hib12 (by kernel_rfl) ?h3b12 ?h4b12 ?h5b12 ?h6b12 (by assumption) ?h8b12
        case hib12 => (simp only [List.getElem?_toArray, List.getElem?_cons_succ, List.getElem?_cons_zero]; rfl)
        case h3b12 => kernel_rfl
        case h4b12 => kernel_rfl
        case h6b12 => (refine Or.inl ⟨by rfl, ?_⟩; intro w hSw; (try dsimp only at hSw); (go_simp <;> with_reducible rfl))
        case h5b12 => exact fun _ _ _ h => h
        try simp only [Act.put, List.setIfInBounds_toArray, List.set_cons_zero, List.set_cons_succ]
        refine wpAnyH_take (i := 13) (oi := ?oob13) (v := ?vvb13) ?hib13 (by kernel_rfl) ?h3b13 ?h4b13 ?h5b13 ?h6b13 (by assumption) ?h8b13
        case hib13 => (simp only [List.getElem?_toArray, List.getElem?_cons_succ, List.getElem?_cons_zero]; rfl)
        case h3b13 => kernel_rfl
        case h4b13 => kernel_rfl
        case h6b13 => (refine Or.inl ⟨by rfl, ?_⟩; intro w hSw; (try dsimp only at hSw); (go_simp <;> with_reducible rfl))
        case h5b13 => exact fun _ _ _ h => h
        try simp only [Act.put, List.setIfInBounds_toArray, List.set_cons_zero, List.set_cons_succ]
        refine wpAnyH_take (i := 14) (oi := ?oob14) (v := ?vvb14) ?hib14 (by kernel_rfl) ?h3b14 ?h4b14 ?h5b14 ?h6b14 (by assumption) ?h8b14
        case hib14 => (simp only [List.getElem?_toArray, List.getElem?_cons_succ, List.getElem?_cons_zero]; rfl)
        case h3b14 => kernel_rfl
        case h4b14 => kernel_rfl
        case h6b14 => (refine Or.inl ⟨by rfl, ?_⟩; intro w hSw; (try dsimp only at hSw); (go_simp <;> with_reducible rfl))
        case h5b14 => exact fun _ _ _ h => h
        try simp only [Act.put, List.setIfInBounds_toArray, List.set_cons_zero, List.set_cons_succ]
        refine wpAnyH_take (i := 15) (oi := ?oob15) (v := ?vvb15) ?hib15 (by kernel_rfl) ?h3b15 ?h4b15 ?h5b15 ?h6b15 (by assumption) ?h8b15
        case hib15 => (simp only [List.getElem?_toArray, List.getElem?_cons_succ, List.getElem?_cons_zero]; rfl)
        case h3b15 => kernel_rfl
        case h4b15 => kernel_rfl
        case h6b15 => (refine Or.inl ⟨by rfl, ?_⟩; intro w hSw; (try dsimp only at hSw); (go_simp <;> with_reducible rfl))
        case h5b15 => exact fun _ _ _ h => h
        try simp only [Act.put, List.setIfInBounds_toArray, List.set_cons_zero, List.set_cons_succ]
        refine wpAnyH_take (i := 17) (oi := ?oob17) (v := ?vvb17) ?hib17 (by kernel_rfl) ?h3b17 ?h4b17 ?h5b17 ?h6b17 (by assumption) ?h8b17
        case hib17 => (simp only [List.getElem?_toArray, List.getElem?_cons_succ, List.getElem?_cons_zero]; rfl)
        case h3b17 => kernel_rfl
        case h4b17 => kernel_rfl
        case h6b17 => (refine Or.inl ⟨by rfl, ?_⟩; intro w hSw; (try dsimp only at hSw); (go_simp <;> with_reducible rfl))
        case h5b17 => exact fun _ _ _ h => h
        try simp only [Act.put, List.setIfInBounds_toArray, List.set_cons_zero, List.set_cons_succ]
        refine wpAnyH_take (i := 18) (oi := ?oob18) (v := ?vvb18) ?hib18 (by kernel_rfl) ?h3b18 ?h4b18 ?h5b18 ?h6b18 (by assumption) ?h8b18
        case hib18 => (simp only [List.getElem?_toArray, List.getElem?_cons_succ, List.getElem?_cons_zero]; rfl)
        case h3b18 => kernel_rfl
        case h4b18 => kernel_rfl
        case h6b18 => (refine Or.inl ⟨by rfl, ?_⟩; intro w hSw; (try dsimp only at hSw); (go_simp <;> with_reducible rfl))
        case h5b18 => exact fun _ _ _ h => h
        try simp only [Act.put, List.setIfInBounds_toArray, List.set_cons_zero, List.set_cons_succ]
        refine wpAnyH_take (i := 19) (oi := ?oob19) (v := ?vvb19) ?hib19 (by kernel_rfl) ?h3b19 ?h4b19 ?h5b19 ?h6b19 (by assumption) ?h8b19
        case hib19 => (simp only [List.getElem?_toArray, List.getElem?_cons_succ, List.getElem?_cons_zero]; rfl)
        case h3b19 => kernel_rfl
        case h4b19 => kernel_rfl
        case h6b19 => (refine Or.inl ⟨by rfl, ?_⟩; intro w hSw; (try dsimp only at hSw); (go_simp <;> with_reducible rfl))
        case h5b19 => exact fun _ _ _ h => h
        try simp only [Act.put, List.setIfInBounds_toArray, List.set_cons_zero, List.set_cons_succ]
        refine wpAnyH_take (i := 20) (oi := ?oob20) (v := ?vvb20) ?hib20 (by kernel_rfl) ?h3b20 ?h4b20 ?h5b20 ?h6b20 (by assumption) ?h8b20
        case hib20 => (simp only [List.getElem?_toArray, List.getElem?_cons_succ, List.getElem?_cons_zero]; rfl)
        case h3b20 => kernel_rfl
        case h4b20 => kernel_rfl
        case h6b20 => (refine Or.inl ⟨by rfl, ?_⟩; intro w hSw; (try dsimp only at hSw); (go_simp <;> with_reducible rfl))
        case h5b20 => exact fun _ _ _ h => h
        try simp only [Act.put, List.setIfInBounds_toArray, List.set_cons_zero, List.set_cons_succ]
        refine wpAnyH_take (i := 21) (oi := ?oob21) (v := ?vvb21) ?hib21 (by kernel_rfl) ?h3b21 ?h4b21 ?h5b21 ?h6b21 (by assumption) ?h8b21
        case hib21 => (simp only [List.getElem?_toArray, List.getElem?_cons_succ, List.getElem?_cons_zero]; rfl)
        case h3b21 => kernel_rfl
        case h4b21 => kernel_rfl
        case h6b21 => (refine Or.inl ⟨by rfl, ?_⟩; intro w hSw; (try dsimp only at hSw); (go_simp <;> with_reducible rfl))
        case h5b21 => exact fun _ _ _ h => h
        try simp only [Act.put, List.setIfInBounds_toArray, List.set_cons_zero, List.set_cons_succ]
        refine wpAnyH_take (i := 22) (oi := ?oob22) (v := ?vvb22) ?hib22 (by kernel_rfl) ?h3b22 ?h4b22 ?h5b22 ?h6b22 (by assumption) ?h8b22
        case hib22 => (simp only [List.getElem?_toArray, List.getElem?_cons_succ, List.getElem?_cons_zero]; rfl)
        case h3b22 => kernel_rfl
        case h4b22 => kernel_rfl
        case h6b22 => (refine Or.inl ⟨by rfl, ?_⟩; intro w hSw; (try dsimp only at hSw); (go_simp <;> with_reducible rfl))
        case h5b22 => exact fun _ _ _ h => h
        try simp only [Act.put, List.setIfInBounds_toArray, List.set_cons_zero, List.set_cons_succ]
        refine wpAnyH_take (i := 23) (oi := ?oob23) (v := ?vvb23) ?hib23 (by kernel_rfl) ?h3b23 ?h4b23 ?h5b23 ?h6b23 (by assumption) ?h8b23
        case hib23 => (simp only [List.getElem?_toArray, List.getElem?_cons_succ, List.getElem?_cons_zero]; rfl)
        case h3b23 => kernel_rfl
        case h4b23 => kernel_rfl
        case h6b23 => (refine Or.inl ⟨by rfl, ?_⟩; intro w hSw; (try dsimp only at hSw); (go_simp <;> with_reducible rfl))
        case h5b23 => exact fun _ _ _ h => h
        try simp only [Act.put, List.setIfInBounds_toArray, List.set_cons_zero, List.set_cons_succ]
        refine wpAnyH_ready (rs := [16]) (by kernel_rfl) (by simp) (AllReadyH.cons (o := ?oob16) ?hib16 (fun K hK => ?hkb16) AllReadyH.nil)
        rotate_left
        case hib16 => (simp only [List.getElem?_toArray, List.getElem?_cons_succ, List.getElem?_cons_zero]; rfl)
        (rw [if_pos (by rfl)]; go_simp; refine (hval _ (bel_tr HD.out hHeld.2)).mono ?_; rintro e wq2 ⟨rfl, hb⟩; go_wp2_with fail; refine hK.out _ _ (keepOne hb hHeld) (fun hHeld => ?_); clear hK K)
        try simp only [Act.put, List.setIfInBounds_toArray, List.set_cons_zero, List.set_cons_succ]
        refine wpAnyH_take (i := 24) (oi := ?oob24) (v := ?vvb24) ?hib24 (by kernel_rfl) ?h3b24 ?h4b24 ?h5b24 ?h6b24 (by assumption) ?h8b24
        case hib24 => (simp only [List.getElem?_toArray, List.getElem?_cons_succ, List.getElem?_cons_zero]; rfl)
        case h3b24 => kernel_rfl
        case h4b24 => kernel_rfl
        case h6b24 => (refine Or.inl ⟨by rfl, ?_⟩; intro w hSw; (try dsimp only at hSw); (go_simp <;> with_reducible rfl))
        case h5b24 => exact fun _ _ _ h => h
        try simp only [Act.put, List.setIfInBounds_toArray, List.set_cons_zero, List.set_cons_succ]
        refine wpAnyH_take (i := 25) (oi := ?oob25) (v := ?vvb25) ?hib25 (by kernel_rfl) ?h3b25 ?h4b25 ?h5b25 ?h6b25 (by assumption) ?h8b25
        case hib25 => (simp only [List.getElem?_toArray, List.getElem?_cons_succ, List.getElem?_cons_zero]; rfl)
        case h3b25 => kernel_rfl
        case h4b25 => kernel_rfl
        case h6b25 => (refine Or.inl ⟨by rfl, ?_⟩; intro w hSw; (try dsimp only at hSw); (go_simp <;> with_reducible rfl))
        case h5b25 => exact fun _ _ _ h => h
        try simp only [Act.put, List.setIfInBounds_toArray, List.set_cons_zero, List.set_cons_succ]
        refine wpAnyH_take (i := 26) (oi := ?oob26) (v := ?vvb26) ?hib26 (by kernel_rfl) ?h3b26 ?h4b26 ?h5b26 ?h6b26 (by assumption) ?h8b26
        case hib26 => (simp only [List.getElem?_toArray, List.getElem?_cons_succ, List.getElem?_cons_zero]; rfl)
        case h3b26 => kernel_rfl
        case h4b26 => kernel_rfl
        case h6b26 => (refine Or.inl ⟨by rfl, ?_⟩; intro w hSw; (try dsimp only at hSw); (go_simp <;> with_reducible rfl))
        case h5b26 => exact fun _ _ _ h => h
        try simp only [Act.put, List.setIfInBounds_toArray, List.set_cons_zero, List.set_cons_succ]
        refine wpAnyH_take (i := 27) (oi := ?oob27) (v := ?vvb27) ?hib27 (by kernel_rfl) ?h3b27 ?h4b27 ?h5b27 ?h6b27 (by assumption) ?h8b27
        case hib27 => (simp only [List.getElem?_toArray, List.getElem?_cons_succ, List.getElem?_cons_zero]; rfl)
        case h3b27 => kernel_rfl
        case h4b27 => kernel_rfl
        case h6b27 => (refine Or.inl ⟨by rfl, ?_⟩; intro w hSw; (try dsimp only at hSw); (go_simp <;> with_reducible rfl))
        case h5b27 => exact fun _ _ _ h => h
        try simp only [Act.put, List.setIfInBounds_toArray, List.set_cons_zero, List.set_cons_succ]
        refine wpAnyH_done (by kernel_rfl) ?_ _
        have B := bel_tr HB.out (And.right (by assumption))
        go_wp2_with fail
        go_ret
        exact ⟨rfl, B⟩

set_option maxRecDepth 100000 in
theorem lifted (os : Os) (started : os.Started) (H : Type) (enc : TypeId × Value → H) :
    ReturnsInHanded {} Try.checked os 6 .any (Rows.fnStartOfSpec.pre6 enc Try.prog Try.f6 Rows.fnStartOfRow.domain false) (Rows.fnStartOfSpec.post enc Try.prog Try.f6 false true false false) := by
  refine returnsInHanded_of_change (C := Try.checked) own started (by kernel_rfl) Try.func6
    (ChangeSpec.witness6 (enc := enc) (C := Try.checked) false ⟨#[], #[.slice none 0 0], []⟩ 8 (by kernel_rfl) (by kernel_rfl) (by kernel_rfl) (by kernel_rfl)) ?_
  intro W base args ds gs before hval0 hW hcnd _
  have hval : ∀ (j : Nat) t v, Try.f6.params[j]? = some t → args[j]? = some v → Value.okWide Try.prog W .any base t v := hval0
  have hW' := hW
  obtain ⟨p, q, hA0, hV, rfl, hfz, hnd⟩ := hW
  have hA : DataW.TrodAll enc Try.prog W 0 (fun _ => true) true Try.f6.params.toList args.toList ds p := hA0
  rw [Try.params6] at hA hval
  obtain ⟨v0, vs0, e0, es0, p0, q0, hargs, rfl, rfl, h0, r0⟩ := trodAll_cons hA
  obtain ⟨rfl, rfl, rfl⟩ := trodAll_nil r0
  obtain rfl : args = #[v0] := by cases args; simp_all
  obtain ⟨rfl, rfl⟩ := trodVars_none hV
  have k0 := h0
  have lt0 : ∀ x ∈ p0, x.block < W.heap.size := by obtain ⟨m, hm⟩ := k0; exact DataW.trod_lt m _ _ _ hm
  obtain ⟨a0, len0, cap0, rfl⟩ := okWide_slice Try.underlying22 (hval 0 22 v0 rfl rfl)
  obtain ⟨z0, w0⟩ : ∃ zs, IsRow .u8 W a0 len0 cap0 zs := by
    obtain ⟨fuel, hf⟩ := h0
    rcases open_ints Try.underlying22 Try.underlying5 (by kernel_rfl) hf with ⟨hcs, _⟩ | ⟨x, l, c, zs, hcs, _, hl, hm, hz, _, hcell, hwz⟩
    · simp [Value.cells] at hcs
      obtain ⟨rfl, rfl, rfl⟩ := hcs
      exact ⟨[], .inl ⟨rfl, rfl, rfl, rfl⟩⟩
    · simp [Value.cells] at hcs
      obtain ⟨rfl, rfl, rfl⟩ := hcs
      exact ⟨zs, .inr ⟨_, rfl, hl, hm, by simpa using hz, hcell, hwz⟩⟩
  clear hA0 hval0
  refine (walk a0 len0 cap0 z0 W w0).mono fun e W' ⟨he, bel⟩ => ?_
  subst he
  exact ⟨_, rfl, _, _, _, [], _, [], hW', trodAll_mk1 (shut_bool Try.underlying4 _), (trodAll_cons_mk (Below.trod laidOut (by kernel_rfl) (of_decide_eq_true (by kernel_rfl)) k0 bel lt0) trodAll_mk0), rfl, bel.frame _, fun h => by cases h⟩

theorem over : Rows.fnStartOfRow.holds Try.pinned (OpenSpec.ofChange Rows.fnStartOfSpec) :=
  OpenClaim.holds_of_wide 6 Try.f6 rfl rfl rfl rfl rfl rfl rfl ⟨rfl, rfl, rfl, rfl, rfl⟩ rfl rfl rfl rfl rfl (by kernel_rfl) Try.func6 (by kernel_rfl)
    (of_decide_eq_true (by kernel_rfl)) (by unfold Func.isWrapper; first | (rw [if_pos (by decide +kernel)]; kernel_rfl) | (rw [if_neg (by decide +kernel)]; exact ⟨rfl, rfl⟩))
    (fun os started H enc _ => lifted os started H enc)

end Go.Proofs.Ythkeopkehjkpeaa.fnStartOf
namespace Go.Proofs.Ythkeopkehjkpeaa
/-- the statement -/
theorem fnStartOf_holds : Rows.FnStartOfSaid := fnStartOf.over
end Go.Proofs.Ythkeopkehjkpeaa
