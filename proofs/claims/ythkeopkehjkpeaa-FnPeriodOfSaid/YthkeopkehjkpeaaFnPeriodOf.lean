/- For every input the law answers true, and its argument reads afterwards as before: periods are all hours. No condition. -/
import Derived.Test.YthkeopkehjkpeaaRows
import Derived.Test.YthkeopkehjkpeaaDrawTm
import Derived.Test.YthkeopkehjkpeaaTurnM
import Derived.Test.YthkeopkehjkpeaaTopO
import Derived.WalkKit
import Derived.Deep.RegionHeld3
import Derived.ProofKit
import Derived.OpenShut
import Derived.ShutString
import Derived.ChangeOld
import Derived.Below
import Derived.Lib.SmallJoins
namespace Go.Proofs.Ythkeopkehjkpeaa.fnPeriodOf
open Go.ChangeShapes Go.WideShapes Go.ChangeAt Go.RowKit Go.Joins
open Go.ChangeMaps (open_string shut_string)
set_option linter.unusedVariables false

theorem own : ownKnob Try.prog.godebug = none := by kernel_rfl
theorem laidOut : laidOutB Try.prog = true := by kernel_rfl

set_option maxRecDepth 100000 in
set_option maxHeartbeats 6000000 in
theorem walk (a0 : Option Addr) (len0 cap0 : Nat) (z0 : List Int) (w : World) (w0 : IsRow .u8 w a0 len0 cap0 z0) :
    Calls Try.prog 4 #[.slice a0 len0 cap0] w fun e w' => e = .returned (.bool true) ∧ Below w.heap.size w w' := by
  by_cases big : (1048576 : Int) < (len0 : Int)
  · go_enter Try.func4, Try.ntmps4
    go_wp2
    go_ret
    exact ⟨rfl, Below.refl _ _⟩
  go_enter Try.func4, Try.ntmps4
  go_wp2_with fail
  refine (drawPeriodOf a0 len0 cap0 z0 _ w0).mono ?_
  rintro e u1 ⟨b, cp, xs, rfl, hl6, hlc, hi, hz, B⟩
  clear w0 big
  have n1 : xs.length ≤ 1048576 := by omega
  have HI := Lib.hid hi
  have HZ := Lib.hid hz
  have D := Below.refl u1.heap.size u1
  clear hi hz
  by_cases hv : vtB xs = false
  · have HVV : Hid (perV xs = -1) := by unfold perV; rw [hv]; rfl
    have CIPeriodOf : ∀ W, Below u1.heap.size u1 W → Calls Try.prog 17 #[.slice b xs.length cp] W fun e w' => e = .returned (.int .i64 (-1)) ∧ Below W.heap.size W w' := fun W hW => by
      have := iPeriodOf b cp xs W (tn_below HI.out hW) n1 hlc
      rw [HVV.out] at this; exact this
    have CSPeriodOf : ∀ W, Below u1.heap.size u1 W → Calls Try.prog 19 #[.slice b xs.length cp] W fun e w' => e = .returned (.int .i64 (-1)) ∧ Below W.heap.size W w' := fun W hW => by
      have := sPeriodOf b cp xs W (tn_below HI.out hW) n1
      rw [HVV.out] at this; exact this
    clear hv
    go_wp2_with fail
    refine (CIPeriodOf _ D).mono ?_
    rintro e u ⟨rfl, C⟩
    replace B := bel_tr B C
    replace D := bel_tr D C
    clear C
    go_wp2_with fail
    refine (CSPeriodOf _ D).mono ?_
    rintro e u ⟨rfl, C⟩
    replace B := bel_tr B C
    replace D := bel_tr D C
    clear C
    go_wp2_with fail
    refine (CSPeriodOf _ D).mono ?_
    rintro e u ⟨rfl, C⟩
    replace B := bel_tr B C
    replace D := bel_tr D C
    clear C
    go_wp2_with fail
    go_ret
    exact ⟨rfl, B⟩
  · have ok : vtB xs = true := by simpa using hv
    obtain ⟨l1, l24, _, s0, s1⟩ := vt_is ok
    have hm := fun z hz => vt_mem ok z hz
    have hpos : ∀ z ∈ xs, 1 ≤ z.2 := fun z hz => (hm z hz).2.2.1
    obtain ⟨n, hn⟩ : ∃ n, xs.length = n + 1 := ⟨xs.length - 1, by omega⟩
    have hps := per_start hn
    have hst : startV xs (n : Int) = sumT (xs.take n) := by rw [start_at ok n, if_pos (by omega)]
    have hsb := take_sumT ok (k := n) (by omega)
    have hown : ∀ q : Int, hoursV xs q 0 (sumT xs) = ownS xs q := fun q => by
      have := hours_per (o := q) ok (Int.le_refl 0) (by omega)
      rwa [Int.zero_add] at this
    have hlz : lowS xs 0 = 0 := lowS_zero fun z hz => (hm z hz).1
    have hls : ∀ q, lowS xs (q + 1) = lowS xs q + ownS xs (q + 1) := fun q => lowS_succ q xs
    have hlb := fun q => lowS_bd q xs hpos
    have htop : lowS xs 10 ≠ sumT xs → 10 < maxO xs xs.length := fun h => by
      obtain ⟨z, hz, h10⟩ := (hlb 10).2.2 h
      have := maxO_mem hz
      omega
    obtain ⟨p, hpp⟩ : ∃ p, sumT xs = p := ⟨_, rfl⟩
    have hvv : perV xs = p := (per_val ok).trans hpp
    rw [hpp] at s0 s1 hps hown htop hsb
    have hlb2 : ∀ q, 0 ≤ lowS xs q ∧ lowS xs q ≤ p := fun q => by
      have := hlb q
      rw [hpp] at this
      exact ⟨this.1, this.2.1⟩
    have CIPeriodOf : ∀ W, Below u1.heap.size u1 W → Calls Try.prog 17 #[.slice b xs.length cp] W fun e w' => e = .returned (.int .i64 p) ∧ Below W.heap.size W w' := fun W hW => by
      have := iPeriodOf b cp xs W (tn_below HI.out hW) n1 hlc
      rw [hvv] at this; exact this
    have CSPeriodOf : ∀ W, Below u1.heap.size u1 W → Calls Try.prog 19 #[.slice b xs.length cp] W fun e w' => e = .returned (.int .i64 p) ∧ Below W.heap.size W w' := fun W hW => by
      have := sPeriodOf b cp xs W (tn_below HI.out hW) n1
      rw [hvv] at this; exact this
    have CH : ∀ o V, hoursV xs o 0 p = V → -1000000 ≤ o ∧ o ≤ 1000000 → ∀ W, Below u1.heap.size u1 W → Calls Try.prog 20 #[.slice b xs.length cp, .int .i64 o, .int .i64 0, .int .i64 p] W fun e w' => e = .returned (.int .i64 V) ∧ Below W.heap.size W w' := fun o V hV bo W hW => by
      have := iHoursIn b cp xs o 0 p W (tn_below HI.out hW) n1 hlc (wf_small bo) (wf_small (by omega)) (wf_small (by omega))
      rw [hV] at this; exact this
    obtain ⟨s, hS⟩ : ∃ s, sumT (xs.take n) = s := ⟨_, rfl⟩
    rw [hS] at hps hst hsb
    have CT : ∀ W, Below u1.heap.size u1 W → Calls Try.prog 21 #[.slice b xs.length cp, .int .i64 (n : Int)] W fun e w' => e = .returned (.int .i64 s) ∧ Below W.heap.size W w' := fun W hW => by
      have := iStartOf b cp xs (n : Int) W (tn_below HI.out hW) n1 hlc (wf_small (by omega))
      rw [hst] at this; exact this
    have CO : ∀ W, Below u1.heap.size u1 W → Calls Try.prog 22 #[.slice b xs.length cp] W fun e w' => e = .returned (.int .i64 (maxO xs xs.length)) ∧ Below W.heap.size W w' := fun W hW =>
      topO b cp xs W (tn_below HI.out hW) n1
    have vf : decide (p < 0) = false := decide_eq_false (by omega)
    have ew : IntKind.i64.wrap ((xs.length : Int) - 1) = (n : Int) := (wrap_small (by omega)).trans (by omega)
    have HLS := Lib.hid hls
    have HLB := Lib.hid hlb2
    have HOWN := Lib.hid hown
    have HLZ := Lib.hid hlz
    have HTOP := Lib.hid htop
    have hcl : IsTn u1 b xs := HI.out
    rcases hcl with rfl | ⟨g, oo, rfl, hc⟩
    · simp at l1
    have HC := Lib.hid hc
    have hnl : n < xs.length := by omega
    have nx : (n : Int) < (xs.length : Int) := by omega
    have nx0 : (0 : Int) ≤ (n : Int) := by omega
    clear hv hvv hpp ok hm hpos hst hown hlz hls hlb hlb2 htop hc hn hS
    go_wp2_with fail
    refine (CIPeriodOf _ D).mono ?_
    rintro e u ⟨rfl, C⟩
    replace B := bel_tr B C
    replace D := bel_tr D C
    clear C
    go_wp2_with fail
    refine (CSPeriodOf _ D).mono ?_
    rintro e u ⟨rfl, C⟩
    replace B := bel_tr B C
    replace D := bel_tr D C
    clear C
    go_wp2_with fail
    clear CIPeriodOf CSPeriodOf
    go_loopw [5, 6] (fun z x wr => ∃ q : Int, 0 ≤ q ∧ q ≤ 10 ∧ x = .int .i64 (q + 1) ∧ z = .int .i64 (lowS xs q) ∧ Below w.heap.size w wr ∧ Below u1.heap.size u1 wr) (fun _ x _ => (11 - intOf x).toNat)
    case atStart => exact ⟨0, by omega, by omega, rfl, by rw [HLZ.out], B, D⟩
    case round =>
      clear B D
      obtain ⟨q, q0, q1, rfl, rfl, B, D⟩ := hrel
      by_cases hlt : q < 10
      · have C1 := fun W hW => CH (q + 1) _ (HOWN.out (q + 1)) (by omega) W hW
        have hb1 := HLB.out q
        have hb2 := HLB.out (q + 1)
        have hs := HLS.out q
        rw [hs] at hb2
        have HS := Lib.hid hs
        generalize lowS xs q = m at hb1 hb2 HS
        generalize ownS xs (q + 1) = d at C1 hb2 HS
        have wr1 : IntKind.i64.wrap (m + d) = m + d := wrap_small (by omega)
        have wr2 : IntKind.i64.wrap (q + 1 + 1) = q + 1 + 1 := wrap_small (by omega)
        have e1 : decide (q + 1 ≤ 10) = true := decide_eq_true (by omega)
        clear CT CO CH hs
        go_wp2_with fail
        refine (C1 _ D).mono ?_
        rintro e u ⟨rfl, C⟩
        replace B := bel_tr B C
        replace D := bel_tr D C
        clear C
        go_wp2_with fail
        go_roundw
        case rel => exact ⟨q + 1, by omega, by omega, rfl, by rw [HS.out], B, D⟩
        case measure => simp [intOf]; omega
      · obtain rfl : q = 10 := by omega
        obtain ⟨c0, c1⟩ := tn_at HC.out D hnl
        have hb1 := HLB.out 10
        generalize lowS xs 10 = m at hb1 HTOP
        generalize maxO xs xs.length = mx at HTOP CO
        generalize xs.getD n tn0 = hh at c0 c1 hps hsb
        obtain ⟨x, y⟩ := hh
        dsimp only at c0 c1 hps hsb
        have wr1 : IntKind.i64.wrap (s + y) = p := (wrap_small (by omega)).trans hps
        clear hps hsb c0 CH hlt
        by_cases hmp : m = p
        · subst hmp
          go_wp2_with fail
          have HB := Lib.hid B
          have HD := Lib.hid D
          clear B D
          refine wp_region_held_drew (S := (fun w' => w'.cell? ⟨g, oo + n * 2 + 1, none⟩ = some (.int .i64 y) ∧ Below wr.heap.size wr w')) (by kernel_rfl) ?_ (fun hHeld => ?_)
          · exact ⟨c1, (Below.refl _ _).drew⟩
          refine wpAnyH_take (i := 0) (oi := ?oob0) (v := ?vvb0) ?hib0 (by kernel_rfl) ?h3b0 ?h4b0 ?h5b0 ?h6b0 (by assumption) ?h8b0
          case hib0 => (simp only [List.getElem?_toArray, List.getElem?_cons_succ, List.getElem?_cons_zero]; rfl)
          case h3b0 => kernel_rfl
          case h4b0 => kernel_rfl
          case h6b0 => (refine Or.inl ⟨by rfl, ?_⟩; intro w hSw; (try dsimp only at hSw); (go_simp <;> with_reducible rfl))
          case h5b0 => exact fun _ _ _ h => h
          try simp only [Act.put, List.setIfInBounds_toArray, List.set_cons_zero, List.set_cons_succ]
          refine wpAnyH_take (i := 1) (oi := ?oob1) (v := ?vvb1) ?hib1 (by kernel_rfl) ?h3b1 ?h4b1 ?h5b1 ?h6b1 (by assumption) ?h8b1
          case hib1 => (simp only [List.getElem?_toArray, List.getElem?_cons_succ, List.getElem?_cons_zero]; rfl)
          case h3b1 => kernel_rfl
          case h4b1 => kernel_rfl
          case h6b1 => (refine Or.inl ⟨by rfl, ?_⟩; intro w hSw; (try dsimp only at hSw); (go_simp <;> with_reducible rfl))
          case h5b1 => exact fun _ _ _ h => h
          try simp only [Act.put, List.setIfInBounds_toArray, List.set_cons_zero, List.set_cons_succ]
          refine wpAnyH_take (i := 3) (oi := ?oob3) (v := ?vvb3) ?hib3 (by kernel_rfl) ?h3b3 ?h4b3 ?h5b3 ?h6b3 (by assumption) ?h8b3
          case hib3 => (simp only [List.getElem?_toArray, List.getElem?_cons_succ, List.getElem?_cons_zero]; rfl)
          case h3b3 => kernel_rfl
          case h4b3 => kernel_rfl
          case h6b3 => (refine Or.inl ⟨by rfl, ?_⟩; intro w hSw; (try dsimp only at hSw); (go_simp <;> with_reducible rfl))
          case h5b3 => exact fun _ _ _ h => h
          try simp only [Act.put, List.setIfInBounds_toArray, List.set_cons_zero, List.set_cons_succ]
          refine wpAnyH_take (i := 4) (oi := ?oob4) (v := ?vvb4) ?hib4 (by kernel_rfl) ?h3b4 ?h4b4 ?h5b4 ?h6b4 (by assumption) ?h8b4
          case hib4 => (simp only [List.getElem?_toArray, List.getElem?_cons_succ, List.getElem?_cons_zero]; rfl)
          case h3b4 => kernel_rfl
          case h4b4 => kernel_rfl
          case h6b4 => (refine Or.inl ⟨by rfl, ?_⟩; intro w hSw; (try dsimp only at hSw); (go_simp <;> with_reducible rfl))
          case h5b4 => exact fun _ _ _ h => h
          try simp only [Act.put, List.setIfInBounds_toArray, List.set_cons_zero, List.set_cons_succ]
          refine wpAnyH_take (i := 5) (oi := ?oob5) (v := ?vvb5) ?hib5 (by kernel_rfl) ?h3b5 ?h4b5 ?h5b5 ?h6b5 (by assumption) ?h8b5
          case hib5 => (simp only [List.getElem?_toArray, List.getElem?_cons_succ, List.getElem?_cons_zero]; rfl)
          case h3b5 => kernel_rfl
          case h4b5 => kernel_rfl
          case h6b5 => (refine Or.inl ⟨by rfl, ?_⟩; intro w hSw; (try dsimp only at hSw); (go_simp <;> with_reducible rfl))
          case h5b5 => exact fun _ _ _ h => h
          try simp only [Act.put, List.setIfInBounds_toArray, List.set_cons_zero, List.set_cons_succ]
          refine wpAnyH_take (i := 6) (oi := ?oob6) (v := ?vvb6) ?hib6 (by kernel_rfl) ?h3b6 ?h4b6 ?h5b6 ?h6b6 (by assumption) ?h8b6
          case hib6 => (simp only [List.getElem?_toArray, List.getElem?_cons_succ, List.getElem?_cons_zero]; rfl)
          case h3b6 => kernel_rfl
          case h4b6 => kernel_rfl
          case h6b6 => (refine Or.inl ⟨by rfl, ?_⟩; intro w hSw; (try dsimp only at hSw); (go_simp <;> with_reducible rfl))
          case h5b6 => exact fun _ _ _ h => h
          try simp only [Act.put, List.setIfInBounds_toArray, List.set_cons_zero, List.set_cons_succ]
          refine wpAnyH_take (i := 7) (oi := ?oob7) (v := ?vvb7) ?hib7 (by kernel_rfl) ?h3b7 ?h4b7 ?h5b7 ?h6b7 (by assumption) ?h8b7
          case hib7 => (simp only [List.getElem?_toArray, List.getElem?_cons_succ, List.getElem?_cons_zero]; rfl)
          case h3b7 => kernel_rfl
          case h4b7 => kernel_rfl
          case h6b7 => (refine Or.inl ⟨by rfl, ?_⟩; intro w hSw; (try dsimp only at hSw); (go_simp <;> with_reducible rfl))
          case h5b7 => exact fun _ _ _ h => h
          try simp only [Act.put, List.setIfInBounds_toArray, List.set_cons_zero, List.set_cons_succ]
          refine wpAnyH_take (i := 9) (oi := ?oob9) (v := ?vvb9) ?hib9 (by kernel_rfl) ?h3b9 ?h4b9 ?h5b9 ?h6b9 (by assumption) ?h8b9
          case hib9 => (simp only [List.getElem?_toArray, List.getElem?_cons_succ, List.getElem?_cons_zero]; rfl)
          case h3b9 => kernel_rfl
          case h4b9 => kernel_rfl
          case h6b9 => (refine Or.inl ⟨by rfl, ?_⟩; intro w hSw; (try dsimp only at hSw); (go_simp <;> with_reducible rfl))
          case h5b9 => exact fun _ _ _ h => h
          try simp only [Act.put, List.setIfInBounds_toArray, List.set_cons_zero, List.set_cons_succ]
          refine wpAnyH_ready (rs := [2]) (by kernel_rfl) (by simp) (AllReadyH.cons (o := ?oob2) ?hib2 (fun K hK => ?hkb2) AllReadyH.nil)
          rotate_left
          case hib2 => (simp only [List.getElem?_toArray, List.getElem?_cons_succ, List.getElem?_cons_zero]; rfl)
          (rw [if_pos (by rfl)]; go_simp; refine (CT _ (bel_tr HD.out hHeld.2)).mono ?_; rintro e wq2 ⟨rfl, hb⟩; go_wp2_with fail; refine hK.out _ _ (keepOne hb hHeld) (fun hHeld => ?_); clear hK K)
          try simp only [Act.put, List.setIfInBounds_toArray, List.set_cons_zero, List.set_cons_succ]
          refine wpAnyH_take (i := 8) (oi := ?oob8) (v := ?vvb8) ?hib8 (by kernel_rfl) ?h3b8 ?h4b8 ?h5b8 ?h6b8 (by assumption) ?h8b8
          case hib8 => (simp only [List.getElem?_toArray, List.getElem?_cons_succ, List.getElem?_cons_zero]; rfl)
          case h3b8 => kernel_rfl
          case h4b8 => kernel_rfl
          case h6b8 => (refine Or.inl ⟨by rfl, ?_⟩; intro w hSw; (try dsimp only at hSw); (go_simp <;> with_reducible rfl))
          case h5b8 => exact fun _ _ _ h => h
          try simp only [Act.put, List.setIfInBounds_toArray, List.set_cons_zero, List.set_cons_succ]
          refine wpAnyH_take (i := 10) (oi := ?oob10) (v := ?vvb10) ?hib10 (by kernel_rfl) ?h3b10 ?h4b10 ?h5b10 ?h6b10 (by assumption) ?h8b10
          case hib10 => (simp only [List.getElem?_toArray, List.getElem?_cons_succ, List.getElem?_cons_zero]; rfl)
          case h3b10 => kernel_rfl
          case h4b10 => kernel_rfl
          case h6b10 => (refine Or.inl ⟨by rfl, ?_⟩; intro w hSw; (try dsimp only at hSw); (go_simp <;> with_reducible rfl))
          case h5b10 => exact fun _ _ _ h => h
          try simp only [Act.put, List.setIfInBounds_toArray, List.set_cons_zero, List.set_cons_succ]
          refine wpAnyH_take (i := 11) (oi := ?oob11) (v := ?vvb11) ?hib11 (by kernel_rfl) ?h3b11 ?h4b11 ?h5b11 ?h6b11 (by assumption) ?h8b11
          case hib11 => (simp only [List.getElem?_toArray, List.getElem?_cons_succ, List.getElem?_cons_zero]; rfl)
          case h3b11 => kernel_rfl
          case h4b11 => kernel_rfl
          case h6b11 => (refine Or.inl ⟨by rfl, ?_⟩; intro w hSw; (try dsimp only at hSw); (go_simp <;> with_reducible rfl))
          case h5b11 => exact fun _ _ _ h => h
          try simp only [Act.put, List.setIfInBounds_toArray, List.set_cons_zero, List.set_cons_succ]
          refine wpAnyH_take (i := 12) (oi := ?oob12) (v := ?vvb12) ?hib12 (by kernel_rfl) ?h3b12 ?h4b12 ?h5b12 ?h6b12 (by assumption) ?h8b12
          case hib12 => (simp only [List.getElem?_toArray, List.getElem?_cons_succ, List.getElem?_cons_zero]; rfl)
          case h3b12 => kernel_rfl
          case h4b12 => kernel_rfl
          case h6b12 => (refine Or.inl ⟨by rfl, ?_⟩; intro w hSw; (try dsimp only at hSw); (go_simp <;> with_reducible rfl))
          case h5b12 => exact fun _ _ _ h => h
          try simp only [Act.put, List.setIfInBounds_toArray, List.set_cons_zero, List.set_cons_succ]
          refine wpAnyH_take (i := 13) (oi := ?oob13) (v := ?vvb13) ?hib13 (by kernel_rfl) ?h3b13 ?h4b13 ?h5b13 ?h6b13 (by assumption) ?h8b13
          case hib13 => (simp only [List.getElem?_toArray, List.getElem?_cons_succ, List.getElem?_cons_zero]; rfl)
          case h3b13 => kernel_rfl
          case h4b13 => kernel_rfl
          case h6b13 => (refine Or.inl ⟨by rfl, ?_⟩; intro w hSw; (try dsimp only at hSw); (go_simp <;> with_reducible rfl))
          case h5b13 => exact fun _ _ _ h => h
          try simp only [Act.put, List.setIfInBounds_toArray, List.set_cons_zero, List.set_cons_succ]
          refine wpAnyH_take (i := 14) (oi := ?oob14) (v := ?vvb14) ?hib14 (by kernel_rfl) ?h3b14 ?h4b14 ?h5b14 ?h6b14 (by assumption) ?h8b14
          case hib14 => (simp only [List.getElem?_toArray, List.getElem?_cons_succ, List.getElem?_cons_zero]; rfl)
          case h3b14 => kernel_rfl
          case h4b14 => kernel_rfl
          case h6b14 => (refine Or.inl ⟨by rfl, ?_⟩; intro w hSw; (try dsimp only at hSw); (go_simp <;> with_reducible rfl))
          case h5b14 => exact fun _ _ _ h => h
          try simp only [Act.put, List.setIfInBounds_toArray, List.set_cons_zero, List.set_cons_succ]
          refine wpAnyH_take (i := 15) (oi := ?oob15) (v := ?vvb15) ?hib15 (by kernel_rfl) ?h3b15 ?h4b15 ?h5b15 ?h6b15 (by assumption) ?h8b15
          case hib15 => (simp only [List.getElem?_toArray, List.getElem?_cons_succ, List.getElem?_cons_zero]; rfl)
          case h3b15 => kernel_rfl
          case h4b15 => kernel_rfl
          case h6b15 => (refine Or.inl ⟨by rfl, ?_⟩; intro w hSw; (try dsimp only at hSw); (go_simp <;> with_reducible rfl))
          case h5b15 => exact fun _ _ _ h => h
          try simp only [Act.put, List.setIfInBounds_toArray, List.set_cons_zero, List.set_cons_succ]
          refine wpAnyH_take (i := 16) (oi := ?oob16) (v := undef) ?hib16 (by kernel_rfl) ?h3b16 ?h4b16 ?h5b16 ?h6b16 (by assumption) ?h8b16
          case hib16 => (simp only [List.getElem?_toArray, List.getElem?_cons_succ, List.getElem?_cons_zero]; rfl)
          case h3b16 => kernel_rfl
          case h4b16 => kernel_rfl
          case h6b16 => exact Or.inr ⟨by rfl, rfl⟩
          case h5b16 => exact fun _ _ _ h => h
          try simp only [Act.put, List.setIfInBounds_toArray, List.set_cons_zero, List.set_cons_succ]
          refine wpAnyH_take (i := 17) (oi := ?oob17) (v := undef) ?hib17 (by kernel_rfl) ?h3b17 ?h4b17 ?h5b17 ?h6b17 (by assumption) ?h8b17
          case hib17 => (simp only [List.getElem?_toArray, List.getElem?_cons_succ, List.getElem?_cons_zero]; rfl)
          case h3b17 => kernel_rfl
          case h4b17 => kernel_rfl
          case h6b17 => exact Or.inr ⟨by rfl, rfl⟩
          case h5b17 => exact fun _ _ _ h => h
          try simp only [Act.put, List.setIfInBounds_toArray, List.set_cons_zero, List.set_cons_succ]
          refine wpAnyH_take (i := 18) (oi := ?oob18) (v := undef) ?hib18 (by kernel_rfl) ?h3b18 ?h4b18 ?h5b18 ?h6b18 (by assumption) ?h8b18
          case hib18 => (simp only [List.getElem?_toArray, List.getElem?_cons_succ, List.getElem?_cons_zero]; rfl)
          case h3b18 => kernel_rfl
          case h4b18 => kernel_rfl
          case h6b18 => exact Or.inr ⟨by rfl, rfl⟩
          case h5b18 => exact fun _ _ _ h => h
          try simp only [Act.put, List.setIfInBounds_toArray, List.set_cons_zero, List.set_cons_succ]
          refine wpAnyH_take (i := 19) (oi := ?oob19) (v := undef) ?hib19 (by kernel_rfl) ?h3b19 ?h4b19 ?h5b19 ?h6b19 (by assumption) ?h8b19
          case hib19 => (simp only [List.getElem?_toArray, List.getElem?_cons_succ, List.getElem?_cons_zero]; rfl)
          case h3b19 => kernel_rfl
          case h4b19 => kernel_rfl
          case h6b19 => exact Or.inr ⟨by rfl, rfl⟩
          case h5b19 => exact fun _ _ _ h => h
          try simp only [Act.put, List.setIfInBounds_toArray, List.set_cons_zero, List.set_cons_succ]
          refine wpAnyH_take (i := 20) (oi := ?oob20) (v := undef) ?hib20 (by kernel_rfl) ?h3b20 ?h4b20 ?h5b20 ?h6b20 (by assumption) ?h8b20
          case hib20 => (simp only [List.getElem?_toArray, List.getElem?_cons_succ, List.getElem?_cons_zero]; rfl)
          case h3b20 => kernel_rfl
          case h4b20 => kernel_rfl
          case h6b20 => exact Or.inr ⟨by rfl, rfl⟩
          case h5b20 => exact fun _ _ _ h => h
          try simp only [Act.put, List.setIfInBounds_toArray, List.set_cons_zero, List.set_cons_succ]
          refine wpAnyH_take (i := 21) (oi := ?oob21) (v := undef) ?hib21 (by kernel_rfl) ?h3b21 ?h4b21 ?h5b21 ?h6b21 (by assumption) ?h8b21
          case hib21 => (simp only [List.getElem?_toArray, List.getElem?_cons_succ, List.getElem?_cons_zero]; rfl)
          case h3b21 => kernel_rfl
          case h4b21 => kernel_rfl
          case h6b21 => exact Or.inr ⟨by rfl, rfl⟩
          case h5b21 => exact fun _ _ _ h => h
          try simp only [Act.put, List.setIfInBounds_toArray, List.set_cons_zero, List.set_cons_succ]
          refine wpAnyH_take (i := 22) (oi := ?oob22) (v := undef) ?hib22 (by kernel_rfl) ?h3b22 ?h4b22 ?h5b22 ?h6b22 (by assumption) ?h8b22
          case hib22 => (simp only [List.getElem?_toArray, List.getElem?_cons_succ, List.getElem?_cons_zero]; rfl)
          case h3b22 => kernel_rfl
          case h4b22 => kernel_rfl
          case h6b22 => exact Or.inr ⟨by rfl, rfl⟩
          case h5b22 => exact fun _ _ _ h => h
          try simp only [Act.put, List.setIfInBounds_toArray, List.set_cons_zero, List.set_cons_succ]
          refine wpAnyH_take (i := 23) (oi := ?oob23) (v := undef) ?hib23 (by kernel_rfl) ?h3b23 ?h4b23 ?h5b23 ?h6b23 (by assumption) ?h8b23
          case hib23 => (simp only [List.getElem?_toArray, List.getElem?_cons_succ, List.getElem?_cons_zero]; rfl)
          case h3b23 => kernel_rfl
          case h4b23 => kernel_rfl
          case h6b23 => exact Or.inr ⟨by rfl, rfl⟩
          case h5b23 => exact fun _ _ _ h => h
          try simp only [Act.put, List.setIfInBounds_toArray, List.set_cons_zero, List.set_cons_succ]
          refine wpAnyH_take (i := 24) (oi := ?oob24) (v := ?vvb24) ?hib24 (by kernel_rfl) ?h3b24 ?h4b24 ?h5b24 ?h6b24 (by assumption) ?h8b24
          case hib24 => (simp only [List.getElem?_toArray, List.getElem?_cons_succ, List.getElem?_cons_zero]; rfl)
          case h3b24 => kernel_rfl
          case h4b24 => kernel_rfl
          case h6b24 => (refine Or.inl ⟨by rfl, ?_⟩; intro w hSw; (try dsimp only at hSw); (go_simp <;> with_reducible rfl))
          case h5b24 => exact fun _ _ _ h => h
          try simp only [Act.put, List.setIfInBounds_toArray, List.set_cons_zero, List.set_cons_succ]
          refine wpAnyH_take (i := 25) (oi := ?oob25) (v := ?vvb25) ?hib25 (by kernel_rfl) ?h3b25 ?h4b25 ?h5b25 ?h6b25 (by assumption) ?h8b25
          case hib25 => (simp only [List.getElem?_toArray, List.getElem?_cons_succ, List.getElem?_cons_zero]; rfl)
          case h3b25 => kernel_rfl
          case h4b25 => kernel_rfl
          case h6b25 => (refine Or.inl ⟨by rfl, ?_⟩; intro w hSw; (try dsimp only at hSw); (go_simp <;> with_reducible rfl))
          case h5b25 => exact fun _ _ _ h => h
          try simp only [Act.put, List.setIfInBounds_toArray, List.set_cons_zero, List.set_cons_succ]
          refine wpAnyH_take (i := 26) (oi := ?oob26) (v := ?vvb26) ?hib26 (by kernel_rfl) ?h3b26 ?h4b26 ?h5b26 ?h6b26 (by assumption) ?h8b26
          case hib26 => (simp only [List.getElem?_toArray, List.getElem?_cons_succ, List.getElem?_cons_zero]; rfl)
          case h3b26 => kernel_rfl
          case h4b26 => kernel_rfl
          case h6b26 => (refine Or.inl ⟨by rfl, ?_⟩; intro w hSw; (try dsimp only at hSw); (go_simp <;> with_reducible rfl))
          case h5b26 => exact fun _ _ _ h => h
          try simp only [Act.put, List.setIfInBounds_toArray, List.set_cons_zero, List.set_cons_succ]
          refine wpAnyH_done (by kernel_rfl) ?_ _
          have B := bel_tr HB.out (And.right (by assumption))
          go_wp2_with fail
          go_ret
          exact ⟨rfl, B⟩
        · have hmx := HTOP.out hmp
          have e1 : (m == p) = false := by simpa using hmp
          have e2 : decide (m < p) = true := decide_eq_true (by omega)
          have e3 : decide (10 < mx) = true := decide_eq_true hmx
          clear hmp hmx
          go_wp2_with fail
          have HB := Lib.hid B
          have HD := Lib.hid D
          clear B D
          refine wp_region_held_drew (S := (fun w' => w'.cell? ⟨g, oo + n * 2 + 1, none⟩ = some (.int .i64 y) ∧ Below wr.heap.size wr w')) (by kernel_rfl) ?_ (fun hHeld => ?_)
          · exact ⟨c1, (Below.refl _ _).drew⟩
          refine wpAnyH_take (i := 0) (oi := ?ooc0) (v := ?vvc0) ?hic0 (by kernel_rfl) ?h3c0 ?h4c0 ?h5c0 ?h6c0 (by assumption) ?h8c0
          case hic0 => (simp only [List.getElem?_toArray, List.getElem?_cons_succ, List.getElem?_cons_zero]; rfl)
          case h3c0 => kernel_rfl
          case h4c0 => kernel_rfl
          case h6c0 => (refine Or.inl ⟨by rfl, ?_⟩; intro w hSw; (try dsimp only at hSw); (go_simp <;> with_reducible rfl))
          case h5c0 => exact fun _ _ _ h => h
          try simp only [Act.put, List.setIfInBounds_toArray, List.set_cons_zero, List.set_cons_succ]
          refine wpAnyH_take (i := 1) (oi := ?ooc1) (v := ?vvc1) ?hic1 (by kernel_rfl) ?h3c1 ?h4c1 ?h5c1 ?h6c1 (by assumption) ?h8c1
          case hic1 => (simp only [List.getElem?_toArray, List.getElem?_cons_succ, List.getElem?_cons_zero]; rfl)
          case h3c1 => kernel_rfl
          case h4c1 => kernel_rfl
          case h6c1 => (refine Or.inl ⟨by rfl, ?_⟩; intro w hSw; (try dsimp only at hSw); (go_simp <;> with_reducible rfl))
          case h5c1 => exact fun _ _ _ h => h
          try simp only [Act.put, List.setIfInBounds_toArray, List.set_cons_zero, List.set_cons_succ]
          refine wpAnyH_take (i := 3) (oi := ?ooc3) (v := ?vvc3) ?hic3 (by kernel_rfl) ?h3c3 ?h4c3 ?h5c3 ?h6c3 (by assumption) ?h8c3
          case hic3 => (simp only [List.getElem?_toArray, List.getElem?_cons_succ, List.getElem?_cons_zero]; rfl)
          case h3c3 => kernel_rfl
          case h4c3 => kernel_rfl
          case h6c3 => (refine Or.inl ⟨by rfl, ?_⟩; intro w hSw; (try dsimp only at hSw); (go_simp <;> with_reducible rfl))
          case h5c3 => exact fun _ _ _ h => h
          try simp only [Act.put, List.setIfInBounds_toArray, List.set_cons_zero, List.set_cons_succ]
          refine wpAnyH_take (i := 4) (oi := ?ooc4) (v := ?vvc4) ?hic4 (by kernel_rfl) ?h3c4 ?h4c4 ?h5c4 ?h6c4 (by assumption) ?h8c4
          case hic4 => (simp only [List.getElem?_toArray, List.getElem?_cons_succ, List.getElem?_cons_zero]; rfl)
          case h3c4 => kernel_rfl
          case h4c4 => kernel_rfl
          case h6c4 => (refine Or.inl ⟨by rfl, ?_⟩; intro w hSw; (try dsimp only at hSw); (go_simp <;> with_reducible rfl))
          case h5c4 => exact fun _ _ _ h => h
          try simp only [Act.put, List.setIfInBounds_toArray, List.set_cons_zero, List.set_cons_succ]
          refine wpAnyH_take (i := 5) (oi := ?ooc5) (v := ?vvc5) ?hic5 (by kernel_rfl) ?h3c5 ?h4c5 ?h5c5 ?h6c5 (by assumption) ?h8c5
          case hic5 => (simp only [List.getElem?_toArray, List.getElem?_cons_succ, List.getElem?_cons_zero]; rfl)
          case h3c5 => kernel_rfl
          case h4c5 => kernel_rfl
          case h6c5 => (refine Or.inl ⟨by rfl, ?_⟩; intro w hSw; (try dsimp only at hSw); (go_simp <;> with_reducible rfl))
          case h5c5 => exact fun _ _ _ h => h
          try simp only [Act.put, List.setIfInBounds_toArray, List.set_cons_zero, List.set_cons_succ]
          refine wpAnyH_take (i := 6) (oi := ?ooc6) (v := ?vvc6) ?hic6 (by kernel_rfl) ?h3c6 ?h4c6 ?h5c6 ?h6c6 (by assumption) ?h8c6
          case hic6 => (simp only [List.getElem?_toArray, List.getElem?_cons_succ, List.getElem?_cons_zero]; rfl)
          case h3c6 => kernel_rfl
          case h4c6 => kernel_rfl
          case h6c6 => (refine Or.inl ⟨by rfl, ?_⟩; intro w hSw; (try dsimp only at hSw); (go_simp <;> with_reducible rfl))
          case h5c6 => exact fun _ _ _ h => h
          try simp only [Act.put, List.setIfInBounds_toArray, List.set_cons_zero, List.set_cons_succ]
          refine wpAnyH_take (i := 7) (oi := ?ooc7) (v := ?vvc7) ?hic7 (by kernel_rfl) ?h3c7 ?h4c7 ?h5c7 ?h6c7 (by assumption) ?h8c7
          case hic7 => (simp only [List.getElem?_toArray, List.getElem?_cons_succ, List.getElem?_cons_zero]; rfl)
          case h3c7 => kernel_rfl
          case h4c7 => kernel_rfl
          case h6c7 => (refine Or.inl ⟨by rfl, ?_⟩; intro w hSw; (try dsimp only at hSw); (go_simp <;> with_reducible rfl))
          case h5c7 => exact fun _ _ _ h => h
          try simp only [Act.put, List.setIfInBounds_toArray, List.set_cons_zero, List.set_cons_succ]
          refine wpAnyH_take (i := 9) (oi := ?ooc9) (v := ?vvc9) ?hic9 (by kernel_rfl) ?h3c9 ?h4c9 ?h5c9 ?h6c9 (by assumption) ?h8c9
          case hic9 => (simp only [List.getElem?_toArray, List.getElem?_cons_succ, List.getElem?_cons_zero]; rfl)
          case h3c9 => kernel_rfl
          case h4c9 => kernel_rfl
          case h6c9 => (refine Or.inl ⟨by rfl, ?_⟩; intro w hSw; (try dsimp only at hSw); (go_simp <;> with_reducible rfl))
          case h5c9 => exact fun _ _ _ h => h
          try simp only [Act.put, List.setIfInBounds_toArray, List.set_cons_zero, List.set_cons_succ]
          refine wpAnyH_ready (rs := [2]) (by kernel_rfl) (by simp) (AllReadyH.cons (o := ?ooc2) ?hic2 (fun K hK => ?hkc2) AllReadyH.nil)
          rotate_left
          case hic2 => (simp only [List.getElem?_toArray, List.getElem?_cons_succ, List.getElem?_cons_zero]; rfl)
          (rw [if_pos (by rfl)]; go_simp; refine (CT _ (bel_tr HD.out hHeld.2)).mono ?_; rintro e wq2 ⟨rfl, hb⟩; go_wp2_with fail; refine hK.out _ _ (keepOne hb hHeld) (fun hHeld => ?_); clear hK K)
          try simp only [Act.put, List.setIfInBounds_toArray, List.set_cons_zero, List.set_cons_succ]
          refine wpAnyH_take (i := 8) (oi := ?ooc8) (v := ?vvc8) ?hic8 (by kernel_rfl) ?h3c8 ?h4c8 ?h5c8 ?h6c8 (by assumption) ?h8c8
          case hic8 => (simp only [List.getElem?_toArray, List.getElem?_cons_succ, List.getElem?_cons_zero]; rfl)
          case h3c8 => kernel_rfl
          case h4c8 => kernel_rfl
          case h6c8 => (refine Or.inl ⟨by rfl, ?_⟩; intro w hSw; (try dsimp only at hSw); (go_simp <;> with_reducible rfl))
          case h5c8 => exact fun _ _ _ h => h
          try simp only [Act.put, List.setIfInBounds_toArray, List.set_cons_zero, List.set_cons_succ]
          refine wpAnyH_take (i := 10) (oi := ?ooc10) (v := ?vvc10) ?hic10 (by kernel_rfl) ?h3c10 ?h4c10 ?h5c10 ?h6c10 (by assumption) ?h8c10
          case hic10 => (simp only [List.getElem?_toArray, List.getElem?_cons_succ, List.getElem?_cons_zero]; rfl)
          case h3c10 => kernel_rfl
          case h4c10 => kernel_rfl
          case h6c10 => (refine Or.inl ⟨by rfl, ?_⟩; intro w hSw; (try dsimp only at hSw); (go_simp <;> with_reducible rfl))
          case h5c10 => exact fun _ _ _ h => h
          try simp only [Act.put, List.setIfInBounds_toArray, List.set_cons_zero, List.set_cons_succ]
          refine wpAnyH_take (i := 11) (oi := ?ooc11) (v := ?vvc11) ?hic11 (by kernel_rfl) ?h3c11 ?h4c11 ?h5c11 ?h6c11 (by assumption) ?h8c11
          case hic11 => (simp only [List.getElem?_toArray, List.getElem?_cons_succ, List.getElem?_cons_zero]; rfl)
          case h3c11 => kernel_rfl
          case h4c11 => kernel_rfl
          case h6c11 => (refine Or.inl ⟨by rfl, ?_⟩; intro w hSw; (try dsimp only at hSw); (go_simp <;> with_reducible rfl))
          case h5c11 => exact fun _ _ _ h => h
          try simp only [Act.put, List.setIfInBounds_toArray, List.set_cons_zero, List.set_cons_succ]
          refine wpAnyH_take (i := 12) (oi := ?ooc12) (v := ?vvc12) ?hic12 (by kernel_rfl) ?h3c12 ?h4c12 ?h5c12 ?h6c12 (by assumption) ?h8c12
          case hic12 => (simp only [List.getElem?_toArray, List.getElem?_cons_succ, List.getElem?_cons_zero]; rfl)
          case h3c12 => kernel_rfl
          case h4c12 => kernel_rfl
          case h6c12 => (refine Or.inl ⟨by rfl, ?_⟩; intro w hSw; (try dsimp only at hSw); (go_simp <;> with_reducible rfl))
          case h5c12 => exact fun _ _ _ h => h
          try simp only [Act.put, List.setIfInBounds_toArray, List.set_cons_zero, List.set_cons_succ]
          refine wpAnyH_take (i := 13) (oi := ?ooc13) (v := ?vvc13) ?hic13 (by kernel_rfl) ?h3c13 ?h4c13 ?h5c13 ?h6c13 (by assumption) ?h8c13
          case hic13 => (simp only [List.getElem?_toArray, List.getElem?_cons_succ, List.getElem?_cons_zero]; rfl)
          case h3c13 => kernel_rfl
          case h4c13 => kernel_rfl
          case h6c13 => (refine Or.inl ⟨by rfl, ?_⟩; intro w hSw; (try dsimp only at hSw); (go_simp <;> with_reducible rfl))
          case h5c13 => exact fun _ _ _ h => h
          try simp only [Act.put, List.setIfInBounds_toArray, List.set_cons_zero, List.set_cons_succ]
          refine wpAnyH_take (i := 14) (oi := ?ooc14) (v := ?vvc14) ?hic14 (by kernel_rfl) ?h3c14 ?h4c14 ?h5c14 ?h6c14 (by assumption) ?h8c14
          case hic14 => (simp only [List.getElem?_toArray, List.getElem?_cons_succ, List.getElem?_cons_zero]; rfl)
          case h3c14 => kernel_rfl
          case h4c14 => kernel_rfl
          case h6c14 => (refine Or.inl ⟨by rfl, ?_⟩; intro w hSw; (try dsimp only at hSw); (go_simp <;> with_reducible rfl))
          case h5c14 => exact fun _ _ _ h => h
          try simp only [Act.put, List.setIfInBounds_toArray, List.set_cons_zero, List.set_cons_succ]
          refine wpAnyH_take (i := 15) (oi := ?ooc15) (v := ?vvc15) ?hic15 (by kernel_rfl) ?h3c15 ?h4c15 ?h5c15 ?h6c15 (by assumption) ?h8c15
          case hic15 => (simp only [List.getElem?_toArray, List.getElem?_cons_succ, List.getElem?_cons_zero]; rfl)
          case h3c15 => kernel_rfl
          case h4c15 => kernel_rfl
          case h6c15 => (refine Or.inl ⟨by rfl, ?_⟩; intro w hSw; (try dsimp only at hSw); (go_simp <;> with_reducible rfl))
          case h5c15 => exact fun _ _ _ h => h
          try simp only [Act.put, List.setIfInBounds_toArray, List.set_cons_zero, List.set_cons_succ]
          refine wpAnyH_take (i := 16) (oi := ?ooc16) (v := ?vvc16) ?hic16 (by kernel_rfl) ?h3c16 ?h4c16 ?h5c16 ?h6c16 (by assumption) ?h8c16
          case hic16 => (simp only [List.getElem?_toArray, List.getElem?_cons_succ, List.getElem?_cons_zero]; rfl)
          case h3c16 => kernel_rfl
          case h4c16 => kernel_rfl
          case h6c16 => (refine Or.inl ⟨by rfl, ?_⟩; intro w hSw; (try dsimp only at hSw); (go_simp <;> with_reducible rfl))
          case h5c16 => exact fun _ _ _ h => h
          try simp only [Act.put, List.setIfInBounds_toArray, List.set_cons_zero, List.set_cons_succ]
          refine wpAnyH_take (i := 17) (oi := ?ooc17) (v := ?vvc17) ?hic17 (by kernel_rfl) ?h3c17 ?h4c17 ?h5c17 ?h6c17 (by assumption) ?h8c17
          case hic17 => (simp only [List.getElem?_toArray, List.getElem?_cons_succ, List.getElem?_cons_zero]; rfl)
          case h3c17 => kernel_rfl
          case h4c17 => kernel_rfl
          case h6c17 => (refine Or.inl ⟨by rfl, ?_⟩; intro w hSw; (try dsimp only at hSw); (go_simp <;> with_reducible rfl))
          case h5c17 => exact fun _ _ _ h => h
          try simp only [Act.put, List.setIfInBounds_toArray, List.set_cons_zero, List.set_cons_succ]
          refine wpAnyH_take (i := 18) (oi := ?ooc18) (v := ?vvc18) ?hic18 (by kernel_rfl) ?h3c18 ?h4c18 ?h5c18 ?h6c18 (by assumption) ?h8c18
          case hic18 => (simp only [List.getElem?_toArray, List.getElem?_cons_succ, List.getElem?_cons_zero]; rfl)
          case h3c18 => kernel_rfl
          case h4c18 => kernel_rfl
          case h6c18 => (refine Or.inl ⟨by rfl, ?_⟩; intro w hSw; (try dsimp only at hSw); (go_simp <;> with_reducible rfl))
          case h5c18 => exact fun _ _ _ h => h
          try simp only [Act.put, List.setIfInBounds_toArray, List.set_cons_zero, List.set_cons_succ]
          refine wpAnyH_take (i := 19) (oi := ?ooc19) (v := ?vvc19) ?hic19 (by kernel_rfl) ?h3c19 ?h4c19 ?h5c19 ?h6c19 (by assumption) ?h8c19
          case hic19 => (simp only [List.getElem?_toArray, List.getElem?_cons_succ, List.getElem?_cons_zero]; rfl)
          case h3c19 => kernel_rfl
          case h4c19 => kernel_rfl
          case h6c19 => (refine Or.inl ⟨by rfl, ?_⟩; intro w hSw; (try dsimp only at hSw); (go_simp <;> with_reducible rfl))
          case h5c19 => exact fun _ _ _ h => h
          try simp only [Act.put, List.setIfInBounds_toArray, List.set_cons_zero, List.set_cons_succ]
          refine wpAnyH_take (i := 20) (oi := ?ooc20) (v := ?vvc20) ?hic20 (by kernel_rfl) ?h3c20 ?h4c20 ?h5c20 ?h6c20 (by assumption) ?h8c20
          case hic20 => (simp only [List.getElem?_toArray, List.getElem?_cons_succ, List.getElem?_cons_zero]; rfl)
          case h3c20 => kernel_rfl
          case h4c20 => kernel_rfl
          case h6c20 => (refine Or.inl ⟨by rfl, ?_⟩; intro w hSw; (try dsimp only at hSw); (go_simp <;> with_reducible rfl))
          case h5c20 => exact fun _ _ _ h => h
          try simp only [Act.put, List.setIfInBounds_toArray, List.set_cons_zero, List.set_cons_succ]
          refine wpAnyH_ready (rs := [21]) (by kernel_rfl) (by simp) (AllReadyH.cons (o := ?ooc21) ?hic21 (fun K hK => ?hkc21) AllReadyH.nil)
          rotate_left
          case hic21 => (simp only [List.getElem?_toArray, List.getElem?_cons_succ, List.getElem?_cons_zero]; rfl)
          (rw [if_pos (by rfl)]; go_simp; refine (CO _ (bel_tr HD.out hHeld.2)).mono ?_; rintro e wq3 ⟨rfl, hb⟩; go_wp2_with fail; refine hK.out _ _ (keepOne hb hHeld) (fun hHeld => ?_); clear hK K)
          try simp only [Act.put, List.setIfInBounds_toArray, List.set_cons_zero, List.set_cons_succ]
          refine wpAnyH_take (i := 22) (oi := ?ooc22) (v := ?vvc22) ?hic22 (by kernel_rfl) ?h3c22 ?h4c22 ?h5c22 ?h6c22 (by assumption) ?h8c22
          case hic22 => (simp only [List.getElem?_toArray, List.getElem?_cons_succ, List.getElem?_cons_zero]; rfl)
          case h3c22 => kernel_rfl
          case h4c22 => kernel_rfl
          case h6c22 => (refine Or.inl ⟨by rfl, ?_⟩; intro w hSw; (try dsimp only at hSw); (go_simp <;> with_reducible rfl))
          case h5c22 => exact fun _ _ _ h => h
          try simp only [Act.put, List.setIfInBounds_toArray, List.set_cons_zero, List.set_cons_succ]
          refine wpAnyH_take (i := 23) (oi := ?ooc23) (v := ?vvc23) ?hic23 (by kernel_rfl) ?h3c23 ?h4c23 ?h5c23 ?h6c23 (by assumption) ?h8c23
          case hic23 => (simp only [List.getElem?_toArray, List.getElem?_cons_succ, List.getElem?_cons_zero]; rfl)
          case h3c23 => kernel_rfl
          case h4c23 => kernel_rfl
          case h6c23 => (refine Or.inl ⟨by rfl, ?_⟩; intro w hSw; (try dsimp only at hSw); (go_simp <;> with_reducible rfl))
          case h5c23 => exact fun _ _ _ h => h
          try simp only [Act.put, List.setIfInBounds_toArray, List.set_cons_zero, List.set_cons_succ]
          refine wpAnyH_take (i := 24) (oi := ?ooc24) (v := ?vvc24) ?hic24 (by kernel_rfl) ?h3c24 ?h4c24 ?h5c24 ?h6c24 (by assumption) ?h8c24
          case hic24 => (simp only [List.getElem?_toArray, List.getElem?_cons_succ, List.getElem?_cons_zero]; rfl)
          case h3c24 => kernel_rfl
          case h4c24 => kernel_rfl
          case h6c24 => (refine Or.inl ⟨by rfl, ?_⟩; intro w hSw; (try dsimp only at hSw); (go_simp <;> with_reducible rfl))
          case h5c24 => exact fun _ _ _ h => h
          try simp only [Act.put, List.setIfInBounds_toArray, List.set_cons_zero, List.set_cons_succ]
          refine wpAnyH_take (i := 25) (oi := ?ooc25) (v := ?vvc25) ?hic25 (by kernel_rfl) ?h3c25 ?h4c25 ?h5c25 ?h6c25 (by assumption) ?h8c25
          case hic25 => (simp only [List.getElem?_toArray, List.getElem?_cons_succ, List.getElem?_cons_zero]; rfl)
          case h3c25 => kernel_rfl
          case h4c25 => kernel_rfl
          case h6c25 => (refine Or.inl ⟨by rfl, ?_⟩; intro w hSw; (try dsimp only at hSw); (go_simp <;> with_reducible rfl))
          case h5c25 => exact fun _ _ _ h => h
          try simp only [Act.put, List.setIfInBounds_toArray, List.set_cons_zero, List.set_cons_succ]
          refine wpAnyH_take (i := 26) (oi := ?ooc26) (v := ?vvc26) ?hic26 (by kernel_rfl) ?h3c26 ?h4c26 ?h5c26 ?h6c26 (by assumption) ?h8c26
          case hic26 => (simp only [List.getElem?_toArray, List.getElem?_cons_succ, List.getElem?_cons_zero]; rfl)
          case h3c26 => kernel_rfl
          case h4c26 => kernel_rfl
          case h6c26 => (refine Or.inl ⟨by rfl, ?_⟩; intro w hSw; (try dsimp only at hSw); (go_simp <;> with_reducible rfl))
          case h5c26 => exact fun _ _ _ h => h
          try simp only [Act.put, List.setIfInBounds_toArray, List.set_cons_zero, List.set_cons_succ]
          refine wpAnyH_done (by kernel_rfl) ?_ _
          have B := bel_tr HB.out (And.right (by assumption))
          go_wp2_with fail
          go_ret
          exact ⟨rfl, B⟩

set_option maxRecDepth 100000 in
theorem lifted (os : Os) (started : os.Started) (H : Type) (enc : TypeId × Value → H) :
    ReturnsInHanded {} Try.checked os 4 .any (Rows.fnPeriodOfSpec.pre6 enc Try.prog Try.f4 Rows.fnPeriodOfRow.domain false) (Rows.fnPeriodOfSpec.post enc Try.prog Try.f4 false true false false) := by
  refine returnsInHanded_of_change (C := Try.checked) own started (by kernel_rfl) Try.func4
    (ChangeSpec.witness6 (enc := enc) (C := Try.checked) false ⟨#[], #[.slice none 0 0], []⟩ 8 (by kernel_rfl) (by kernel_rfl) (by kernel_rfl) (by kernel_rfl)) ?_
  intro W base args ds gs before hval0 hW hcnd _
  have hval : ∀ (j : Nat) t v, Try.f4.params[j]? = some t → args[j]? = some v → Value.okWide Try.prog W .any base t v := hval0
  have hW' := hW
  obtain ⟨p, q, hA0, hV, rfl, hfz, hnd⟩ := hW
  have hA : DataW.TrodAll enc Try.prog W 0 (fun _ => true) true Try.f4.params.toList args.toList ds p := hA0
  rw [Try.params4] at hA hval
  obtain ⟨v0, vs0, e0, es0, p0, q0, hargs, rfl, rfl, h0, r0⟩ := trodAll_cons hA
  obtain ⟨rfl, rfl, rfl⟩ := trodAll_nil r0
  obtain rfl : args = #[v0] := by cases args; simp_all
  obtain ⟨rfl, rfl⟩ := trodVars_none hV
  have k0 := h0
  have lt0 : ∀ x ∈ p0, x.block < W.heap.size := by obtain ⟨m, hm⟩ := k0; exact DataW.trod_lt m _ _ _ hm
  obtain ⟨a0, len0, cap0, rfl⟩ := okWide_slice Try.underlying22 (hval 0 22 v0 rfl rfl)
  obtain ⟨z0, w0⟩ : ∃ zs, IsRow .u8 W a0 len0 cap0 zs := by
    obtain ⟨fuel, hf⟩ := h0
    rcases open_ints Try.underlying22 Try.underlying5 (by kernel_rfl) hf with ⟨hcs, _⟩ | ⟨x, l, c, zs, hcs, _, hl, hm, hz, _, hcell, hwz⟩
    · simp [Value.cells] at hcs
      obtain ⟨rfl, rfl, rfl⟩ := hcs
      exact ⟨[], .inl ⟨rfl, rfl, rfl, rfl⟩⟩
    · simp [Value.cells] at hcs
      obtain ⟨rfl, rfl, rfl⟩ := hcs
      exact ⟨zs, .inr ⟨_, rfl, hl, hm, by simpa using hz, hcell, hwz⟩⟩
  clear hA0 hval0
  refine (walk a0 len0 cap0 z0 W w0).mono fun e W' ⟨he, bel⟩ => ?_
  subst he
  exact ⟨_, rfl, _, _, _, [], _, [], hW', trodAll_mk1 (shut_bool Try.underlying4 _), (trodAll_cons_mk (Below.trod laidOut (by kernel_rfl) (of_decide_eq_true (by kernel_rfl)) k0 bel lt0) trodAll_mk0), rfl, bel.frame _, fun h => by cases h⟩

theorem over : Rows.fnPeriodOfRow.holds Try.pinned (OpenSpec.ofChange Rows.fnPeriodOfSpec) :=
  OpenClaim.holds_of_wide 4 Try.f4 rfl rfl rfl rfl rfl rfl rfl ⟨rfl, rfl, rfl, rfl, rfl⟩ rfl rfl rfl rfl rfl (by kernel_rfl) Try.func4 (by kernel_rfl)
    (of_decide_eq_true (by kernel_rfl)) (by unfold Func.isWrapper; first | (rw [if_pos (by decide +kernel)]; kernel_rfl) | (rw [if_neg (by decide +kernel)]; exact ⟨rfl, rfl⟩))
    (fun os started H enc _ => lifted os started H enc)

end Go.Proofs.Ythkeopkehjkpeaa.fnPeriodOf
namespace Go.Proofs.Ythkeopkehjkpeaa
/-- the statement -/
theorem fnPeriodOf_holds : Rows.FnPeriodOfSaid := fnPeriodOf.over
end Go.Proofs.Ythkeopkehjkpeaa
