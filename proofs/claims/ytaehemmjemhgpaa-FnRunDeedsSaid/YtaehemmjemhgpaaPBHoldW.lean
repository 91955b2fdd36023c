/- spec.validLedger and spec.ValidLedger. Condition: at most 1048576 holdings. -/
import Derived.Test.YtaehemmjemhgpaaPBG1
import Derived.IntWalk
set_option maxRecDepth 100000
set_option maxHeartbeats 16000000
namespace Go.Proofs.Ytaehemmjemhgpaa
open Go.RowKit
set_option linter.unusedSimpArgs false

theorem keep3 {w w' : World} {p q r : Addr} {u v x : Value} (hb : Below w.heap.size w w') (h : w.cell? p = some u ∧ w.cell? q = some v ∧ w.cell? r = some x) : w'.cell? p = some u ∧ w'.cell? q = some v ∧ w'.cell? r = some x := ⟨cell_next hb h.1, cell_next hb h.2.1, cell_next hb h.2.2⟩
def LoopRel (w : World) (hs : List Hd) (k : Nat) (wr : World) : Prop := k ≤ hs.length ∧ (∀ j, j < k → okA hs j = true) ∧ (∀ j, j < k → okF hs j = true) ∧ Below w.heap.size w wr

theorem svl (a : Option Addr) (cap : Nat) (hs : List Hd) (w : World) (h : IsHs w a hs) (hn : hs.length ≤ 1048576) :
    Calls Try.prog 56 #[.slice a hs.length cap] w fun e w' => e = .returned (.bool (vlR hs)) ∧ Below w.heap.size w w' := by
  have H0 := Lib.hid h
  rcases h with rfl | ⟨g, off, rfl, hc⟩
  · have hs0 : Calls Try.prog 113 #[.slice a 0 cap] w fun e w' => e = .returned (.tuple #[.agg #[.int .i64 0, .int .i64 1], .bool true]) ∧ Below w.heap.size w w' := ssumOf a cap [] w H0.out (by simp) rfl
    go_enter Try.func56, Try.ntmps56
    go_wp2_with fail
    refine wp_loop_rounds 1 ?_
    rw [rounds_succ]
    go_wp2_with fail
    refine hs0.mono ?_
    rintro e w1 ⟨rfl, hb⟩
    go_wp2_with fail
    go_ret
    exact ⟨rfl, hb.alloc hb.size _⟩
  · have HC := Lib.hid hc
    clear hc
    go_enter Try.func56, Try.ntmps56
    go_wp2_with fail
    go_loopw [3] (fun i wr => ∃ k : Nat, i = .int .i64 k ∧ LoopRel w hs k wr) (fun i _ => hs.length - (intOf i).toNat)
    case atStart => exact ⟨0, rfl, Nat.zero_le _, fun j hj => by omega, fun j hj => by omega, by go_grown⟩
    case round =>
      obtain ⟨k, rfl, hk, ha, hf, hB⟩ := hrel
      have HA := Lib.hid ha
      have HF := Lib.hid hf
      clear ha hf
      by_cases hlt : k < hs.length
      · obtain ⟨c0, c1, c2⟩ := cells_at HC.out hB hlt
        have hok := okA_def hs k
        have hof : okF hs k = (Wsh.vfB (hs.getD k hd0).2.1 (hs.getD k hd0).2.2 && decide ((hs.getD k hd0).2.1 ≠ 0)) := rfl
        obtain ⟨p, d0, hp⟩ : ∃ p, (0 < k → wr.cell? ⟨g, off + (k - 1) * 3, none⟩ = some (.int .i64 p)) ∧ prevO hs k = p := by
          refine ⟨_, fun h0 => ?_, rfl⟩
          unfold prevO
          rw [if_neg (by omega)]
          exact (cells_at HC.out hB (k := k - 1) (by omega)).1
        generalize hs.getD k hd0 = hh at c0 c1 c2 hok hof
        obtain ⟨x, n, d⟩ := hh
        rw [hp] at hok
        dsimp only at c0 c1 c2 hok hof
        have HO := Lib.hid hok
        have HG := Lib.hid hof
        have HB := Lib.hid hB
        have HD := Lib.hid d0
        have HP := Lib.hid hp
        clear hok hof hB d0 hp
        have i0 : (0 : Int) ≤ (k : Int) := by omega
        have i1 : (k : Int) < (hs.length : Int) := by omega
        by_cases hA : x < 1 ∨ 999 < x
        · have HN : Hid (vlR hs = false) := vl_noA hlt (by rw [HO.out]; simp; omega)
          go_wp2_with fail
          refine wp_region_held_drew (S := fun w' => w'.cell? ⟨g, off + k * 3, none⟩ = some (.int .i64 x) ∧ w'.cell? ⟨g, off + k * 3 + 1, none⟩ = some (.int .i64 n) ∧ w'.cell? ⟨g, off + k * 3 + 2, none⟩ = some (.int .i64 d)) (by kernel_rfl) ?_ (fun hHeld => ?_)
          · exact ⟨c0, c1, c2⟩
          refine wpAnyH_take (i := 0) (oi := ?ooa0) (v := ?vva0) ?hia0 (by kernel_rfl) ?h3a0 ?h4a0 ?h5a0 ?h6a0 (by assumption) ?h8a0
          case hia0 => (simp only [List.getElem?_toArray, List.getElem?_cons_succ, List.getElem?_cons_zero]; rfl)
          case h3a0 => kernel_rfl
          case h4a0 => kernel_rfl
          case h6a0 => (refine Or.inl ⟨by rfl, ?_⟩; intro w hSw; (try dsimp only at hSw); (go_simp <;> with_reducible rfl))
          case h5a0 => exact fun _ _ _ h => h
          try simp only [Act.put, List.setIfInBounds_toArray, List.set_cons_zero, List.set_cons_succ]
          refine wpAnyH_take (i := 1) (oi := ?ooa1) (v := ?vva1) ?hia1 (by kernel_rfl) ?h3a1 ?h4a1 ?h5a1 ?h6a1 (by assumption) ?h8a1
          case hia1 => (simp only [List.getElem?_toArray, List.getElem?_cons_succ, List.getElem?_cons_zero]; rfl)
          case h3a1 => kernel_rfl
          case h4a1 => kernel_rfl
          case h6a1 => (refine Or.inl ⟨by rfl, ?_⟩; intro w hSw; (try dsimp only at hSw); (go_simp <;> with_reducible rfl))
          case h5a1 => exact fun _ _ _ h => h
          try simp only [Act.put, List.setIfInBounds_toArray, List.set_cons_zero, List.set_cons_succ]
          refine wpAnyH_take (i := 2) (oi := ?ooa2) (v := ?vva2) ?hia2 (by kernel_rfl) ?h3a2 ?h4a2 ?h5a2 ?h6a2 (by assumption) ?h8a2
          case hia2 => (simp only [List.getElem?_toArray, List.getElem?_cons_succ, List.getElem?_cons_zero]; rfl)
          case h3a2 => kernel_rfl
          case h4a2 => kernel_rfl
          case h6a2 => (refine Or.inl ⟨by rfl, ?_⟩; intro w hSw; (try dsimp only at hSw); (go_simp <;> with_reducible rfl))
          case h5a2 => exact fun _ _ _ h => h
          try simp only [Act.put, List.setIfInBounds_toArray, List.set_cons_zero, List.set_cons_succ]
          refine wpAnyH_take (i := 3) (oi := ?ooa3) (v := ?vva3) ?hia3 (by kernel_rfl) ?h3a3 ?h4a3 ?h5a3 ?h6a3 (by assumption) ?h8a3
          case hia3 => (simp only [List.getElem?_toArray, List.getElem?_cons_succ, List.getElem?_cons_zero]; rfl)
          case h3a3 => kernel_rfl
          case h4a3 => kernel_rfl
          case h6a3 => (refine Or.inl ⟨by rfl, ?_⟩; intro w hSw; (try dsimp only at hSw); (go_simp <;> with_reducible rfl))
          case h5a3 => exact fun _ _ _ h => h
          try simp only [Act.put, List.setIfInBounds_toArray, List.set_cons_zero, List.set_cons_succ]
          refine wpAnyH_take (i := 4) (oi := ?ooa4) (v := ?vva4) ?hia4 (by kernel_rfl) ?h3a4 ?h4a4 ?h5a4 ?h6a4 (by assumption) ?h8a4
          case hia4 => (simp only [List.getElem?_toArray, List.getElem?_cons_succ, List.getElem?_cons_zero]; rfl)
          case h3a4 => kernel_rfl
          case h4a4 => kernel_rfl
          case h6a4 => (refine Or.inl ⟨by rfl, ?_⟩; intro w hSw; (try dsimp only at hSw); (go_simp <;> with_reducible rfl))
          case h5a4 => exact fun _ _ _ h => h
          try simp only [Act.put, List.setIfInBounds_toArray, List.set_cons_zero, List.set_cons_succ]
          refine wpAnyH_ready (rs := [5]) (by kernel_rfl) (by simp) (AllReadyH.cons (o := ?ooa5) ?hia5 (fun K hK => ?hka5) AllReadyH.nil)
          rotate_left
          case hia5 => (simp only [List.getElem?_toArray, List.getElem?_cons_succ, List.getElem?_cons_zero]; rfl)
          (rw [if_pos (by rfl)]; go_simp; refine (inRange_no x 1 999 _ hA).mono ?_; rintro e w3 ⟨rfl, rfl⟩; go_wp2_with fail; refine hK.out _ _ (by assumption) (fun hHeld => ?_); clear hK K)
          try simp only [Act.put, List.setIfInBounds_toArray, List.set_cons_zero, List.set_cons_succ]
          refine wpAnyH_take (i := 6) (oi := ?ooa6) (v := ?vva6) ?hia6 (by kernel_rfl) ?h3a6 ?h4a6 ?h5a6 ?h6a6 (by assumption) ?h8a6
          case hia6 => (simp only [List.getElem?_toArray, List.getElem?_cons_succ, List.getElem?_cons_zero]; rfl)
          case h3a6 => kernel_rfl
          case h4a6 => kernel_rfl
          case h6a6 => (refine Or.inl ⟨by rfl, ?_⟩; intro w hSw; (try dsimp only at hSw); (go_simp <;> with_reducible rfl))
          case h5a6 => exact fun _ _ _ h => h
          try simp only [Act.put, List.setIfInBounds_toArray, List.set_cons_zero, List.set_cons_succ]
          refine wpAnyH_take (i := 7) (oi := ?ooa7) (v := ?vva7) ?hia7 (by kernel_rfl) ?h3a7 ?h4a7 ?h5a7 ?h6a7 (by assumption) ?h8a7
          case hia7 => (simp only [List.getElem?_toArray, List.getElem?_cons_succ, List.getElem?_cons_zero]; rfl)
          case h3a7 => kernel_rfl
          case h4a7 => kernel_rfl
          case h6a7 => (refine Or.inl ⟨by rfl, ?_⟩; intro w hSw; (try dsimp only at hSw); (go_simp <;> with_reducible rfl))
          case h5a7 => exact fun _ _ _ h => h
          try simp only [Act.put, List.setIfInBounds_toArray, List.set_cons_zero, List.set_cons_succ]
          refine wpAnyH_take (i := 8) (oi := ?ooa8) (v := undef) ?hia8 (by kernel_rfl) ?h3a8 ?h4a8 ?h5a8 ?h6a8 (by assumption) ?h8a8
          case hia8 => (simp only [List.getElem?_toArray, List.getElem?_cons_succ, List.getElem?_cons_zero]; rfl)
          case h3a8 => kernel_rfl
          case h4a8 => kernel_rfl
          case h6a8 => exact Or.inr ⟨by rfl, rfl⟩
          case h5a8 => exact fun _ _ _ h => h
          try simp only [Act.put, List.setIfInBounds_toArray, List.set_cons_zero, List.set_cons_succ]
          refine wpAnyH_take (i := 9) (oi := ?ooa9) (v := undef) ?hia9 (by kernel_rfl) ?h3a9 ?h4a9 ?h5a9 ?h6a9 (by assumption) ?h8a9
          case hia9 => (simp only [List.getElem?_toArray, List.getElem?_cons_succ, List.getElem?_cons_zero]; rfl)
          case h3a9 => kernel_rfl
          case h4a9 => kernel_rfl
          case h6a9 => exact Or.inr ⟨by rfl, rfl⟩
          case h5a9 => exact fun _ _ _ h => h
          try simp only [Act.put, List.setIfInBounds_toArray, List.set_cons_zero, List.set_cons_succ]
          refine wpAnyH_take (i := 10) (oi := ?ooa10) (v := undef) ?hia10 (by kernel_rfl) ?h3a10 ?h4a10 ?h5a10 ?h6a10 (by assumption) ?h8a10
          case hia10 => (simp only [List.getElem?_toArray, List.getElem?_cons_succ, List.getElem?_cons_zero]; rfl)
          case h3a10 => kernel_rfl
          case h4a10 => kernel_rfl
          case h6a10 => exact Or.inr ⟨by rfl, rfl⟩
          case h5a10 => exact fun _ _ _ h => h
          try simp only [Act.put, List.setIfInBounds_toArray, List.set_cons_zero, List.set_cons_succ]
          refine wpAnyH_take (i := 11) (oi := ?ooa11) (v := undef) ?hia11 (by kernel_rfl) ?h3a11 ?h4a11 ?h5a11 ?h6a11 (by assumption) ?h8a11
          case hia11 => (simp only [List.getElem?_toArray, List.getElem?_cons_succ, List.getElem?_cons_zero]; rfl)
          case h3a11 => kernel_rfl
          case h4a11 => kernel_rfl
          case h6a11 => exact Or.inr ⟨by rfl, rfl⟩
          case h5a11 => exact fun _ _ _ h => h
          try simp only [Act.put, List.setIfInBounds_toArray, List.set_cons_zero, List.set_cons_succ]
          refine wpAnyH_take (i := 12) (oi := ?ooa12) (v := undef) ?hia12 (by kernel_rfl) ?h3a12 ?h4a12 ?h5a12 ?h6a12 (by assumption) ?h8a12
          case hia12 => (simp only [List.getElem?_toArray, List.getElem?_cons_succ, List.getElem?_cons_zero]; rfl)
          case h3a12 => kernel_rfl
          case h4a12 => kernel_rfl
          case h6a12 => exact Or.inr ⟨by rfl, rfl⟩
          case h5a12 => exact fun _ _ _ h => h
          try simp only [Act.put, List.setIfInBounds_toArray, List.set_cons_zero, List.set_cons_succ]
          refine wpAnyH_take (i := 13) (oi := ?ooa13) (v := undef) ?hia13 (by kernel_rfl) ?h3a13 ?h4a13 ?h5a13 ?h6a13 (by assumption) ?h8a13
          case hia13 => (simp only [List.getElem?_toArray, List.getElem?_cons_succ, List.getElem?_cons_zero]; rfl)
          case h3a13 => kernel_rfl
          case h4a13 => kernel_rfl
          case h6a13 => exact Or.inr ⟨by rfl, rfl⟩
          case h5a13 => exact fun _ _ _ h => h
          try simp only [Act.put, List.setIfInBounds_toArray, List.set_cons_zero, List.set_cons_succ]
          refine wpAnyH_take (i := 14) (oi := ?ooa14) (v := undef) ?hia14 (by kernel_rfl) ?h3a14 ?h4a14 ?h5a14 ?h6a14 (by assumption) ?h8a14
          case hia14 => (simp only [List.getElem?_toArray, List.getElem?_cons_succ, List.getElem?_cons_zero]; rfl)
          case h3a14 => kernel_rfl
          case h4a14 => kernel_rfl
          case h6a14 => exact Or.inr ⟨by rfl, rfl⟩
          case h5a14 => exact fun _ _ _ h => h
          try simp only [Act.put, List.setIfInBounds_toArray, List.set_cons_zero, List.set_cons_succ]
          refine wpAnyH_take (i := 15) (oi := ?ooa15) (v := ?vva15) ?hia15 (by kernel_rfl) ?h3a15 ?h4a15 ?h5a15 ?h6a15 (by assumption) ?h8a15
          case hia15 => (simp only [List.getElem?_toArray, List.getElem?_cons_succ, List.getElem?_cons_zero]; rfl)
          case h3a15 => kernel_rfl
          case h4a15 => kernel_rfl
          case h6a15 => (refine Or.inl ⟨by rfl, ?_⟩; intro w hSw; (try dsimp only at hSw); (go_simp <;> with_reducible rfl))
          case h5a15 => exact fun _ _ _ h => h
          try simp only [Act.put, List.setIfInBounds_toArray, List.set_cons_zero, List.set_cons_succ]
          refine wpAnyH_take (i := 16) (oi := ?ooa16) (v := ?vva16) ?hia16 (by kernel_rfl) ?h3a16 ?h4a16 ?h5a16 ?h6a16 (by assumption) ?h8a16
          case hia16 => (simp only [List.getElem?_toArray, List.getElem?_cons_succ, List.getElem?_cons_zero]; rfl)
          case h3a16 => kernel_rfl
          case h4a16 => kernel_rfl
          case h6a16 => (refine Or.inl ⟨by rfl, ?_⟩; intro w hSw; (try dsimp only at hSw); (go_simp <;> with_reducible rfl))
          case h5a16 => exact fun _ _ _ h => h
          try simp only [Act.put, List.setIfInBounds_toArray, List.set_cons_zero, List.set_cons_succ]
          refine wpAnyH_take (i := 17) (oi := ?ooa17) (v := undef) ?hia17 (by kernel_rfl) ?h3a17 ?h4a17 ?h5a17 ?h6a17 (by assumption) ?h8a17
          case hia17 => (simp only [List.getElem?_toArray, List.getElem?_cons_succ, List.getElem?_cons_zero]; rfl)
          case h3a17 => kernel_rfl
          case h4a17 => kernel_rfl
          case h6a17 => exact Or.inr ⟨by rfl, rfl⟩
          case h5a17 => exact fun _ _ _ h => h
          try simp only [Act.put, List.setIfInBounds_toArray, List.set_cons_zero, List.set_cons_succ]
          refine wpAnyH_take (i := 18) (oi := ?ooa18) (v := undef) ?hia18 (by kernel_rfl) ?h3a18 ?h4a18 ?h5a18 ?h6a18 (by assumption) ?h8a18
          case hia18 => (simp only [List.getElem?_toArray, List.getElem?_cons_succ, List.getElem?_cons_zero]; rfl)
          case h3a18 => kernel_rfl
          case h4a18 => kernel_rfl
          case h6a18 => exact Or.inr ⟨by rfl, rfl⟩
          case h5a18 => exact fun _ _ _ h => h
          try simp only [Act.put, List.setIfInBounds_toArray, List.set_cons_zero, List.set_cons_succ]
          refine wpAnyH_take (i := 19) (oi := ?ooa19) (v := undef) ?hia19 (by kernel_rfl) ?h3a19 ?h4a19 ?h5a19 ?h6a19 (by assumption) ?h8a19
          case hia19 => (simp only [List.getElem?_toArray, List.getElem?_cons_succ, List.getElem?_cons_zero]; rfl)
          case h3a19 => kernel_rfl
          case h4a19 => kernel_rfl
          case h6a19 => exact Or.inr ⟨by rfl, rfl⟩
          case h5a19 => exact fun _ _ _ h => h
          try simp only [Act.put, List.setIfInBounds_toArray, List.set_cons_zero, List.set_cons_succ]
          refine wpAnyH_take (i := 20) (oi := ?ooa20) (v := undef) ?hia20 (by kernel_rfl) ?h3a20 ?h4a20 ?h5a20 ?h6a20 (by assumption) ?h8a20
          case hia20 => (simp only [List.getElem?_toArray, List.getElem?_cons_succ, List.getElem?_cons_zero]; rfl)
          case h3a20 => kernel_rfl
          case h4a20 => kernel_rfl
          case h6a20 => exact Or.inr ⟨by rfl, rfl⟩
          case h5a20 => exact fun _ _ _ h => h
          try simp only [Act.put, List.setIfInBounds_toArray, List.set_cons_zero, List.set_cons_succ]
          refine wpAnyH_take (i := 21) (oi := ?ooa21) (v := undef) ?hia21 (by kernel_rfl) ?h3a21 ?h4a21 ?h5a21 ?h6a21 (by assumption) ?h8a21
          case hia21 => (simp only [List.getElem?_toArray, List.getElem?_cons_succ, List.getElem?_cons_zero]; rfl)
          case h3a21 => kernel_rfl
          case h4a21 => kernel_rfl
          case h6a21 => exact Or.inr ⟨by rfl, rfl⟩
          case h5a21 => exact fun _ _ _ h => h
          try simp only [Act.put, List.setIfInBounds_toArray, List.set_cons_zero, List.set_cons_succ]
          refine wpAnyH_take (i := 22) (oi := ?ooa22) (v := undef) ?hia22 (by kernel_rfl) ?h3a22 ?h4a22 ?h5a22 ?h6a22 (by assumption) ?h8a22
          case hia22 => (simp only [List.getElem?_toArray, List.getElem?_cons_succ, List.getElem?_cons_zero]; rfl)
          case h3a22 => kernel_rfl
          case h4a22 => kernel_rfl
          case h6a22 => exact Or.inr ⟨by rfl, rfl⟩
          case h5a22 => exact fun _ _ _ h => h
          try simp only [Act.put, List.setIfInBounds_toArray, List.set_cons_zero, List.set_cons_succ]
          refine wpAnyH_take (i := 23) (oi := ?ooa23) (v := undef) ?hia23 (by kernel_rfl) ?h3a23 ?h4a23 ?h5a23 ?h6a23 (by assumption) ?h8a23
          case hia23 => (simp only [List.getElem?_toArray, List.getElem?_cons_succ, List.getElem?_cons_zero]; rfl)
          case h3a23 => kernel_rfl
          case h4a23 => kernel_rfl
          case h6a23 => exact Or.inr ⟨by rfl, rfl⟩
          case h5a23 => exact fun _ _ _ h => h
          try simp only [Act.put, List.setIfInBounds_toArray, List.set_cons_zero, List.set_cons_succ]
          refine wpAnyH_take (i := 24) (oi := ?ooa24) (v := ?vva24) ?hia24 (by kernel_rfl) ?h3a24 ?h4a24 ?h5a24 ?h6a24 (by assumption) ?h8a24
          case hia24 => (simp only [List.getElem?_toArray, List.getElem?_cons_succ, List.getElem?_cons_zero]; rfl)
          case h3a24 => kernel_rfl
          case h4a24 => kernel_rfl
          case h6a24 => (refine Or.inl ⟨by rfl, ?_⟩; intro w hSw; (try dsimp only at hSw); (go_simp <;> with_reducible rfl))
          case h5a24 => exact fun _ _ _ h => h
          try simp only [Act.put, List.setIfInBounds_toArray, List.set_cons_zero, List.set_cons_succ]
          refine wpAnyH_take (i := 25) (oi := ?ooa25) (v := ?vva25) ?hia25 (by kernel_rfl) ?h3a25 ?h4a25 ?h5a25 ?h6a25 (by assumption) ?h8a25
          case hia25 => (simp only [List.getElem?_toArray, List.getElem?_cons_succ, List.getElem?_cons_zero]; rfl)
          case h3a25 => kernel_rfl
          case h4a25 => kernel_rfl
          case h6a25 => (refine Or.inl ⟨by rfl, ?_⟩; intro w hSw; (try dsimp only at hSw); (go_simp <;> with_reducible rfl))
          case h5a25 => exact fun _ _ _ h => h
          try simp only [Act.put, List.setIfInBounds_toArray, List.set_cons_zero, List.set_cons_succ]
          refine wpAnyH_take (i := 26) (oi := ?ooa26) (v := undef) ?hia26 (by kernel_rfl) ?h3a26 ?h4a26 ?h5a26 ?h6a26 (by assumption) ?h8a26
          case hia26 => (simp only [List.getElem?_toArray, List.getElem?_cons_succ, List.getElem?_cons_zero]; rfl)
          case h3a26 => kernel_rfl
          case h4a26 => kernel_rfl
          case h6a26 => exact Or.inr ⟨by rfl, rfl⟩
          case h5a26 => exact fun _ _ _ h => h
          try simp only [Act.put, List.setIfInBounds_toArray, List.set_cons_zero, List.set_cons_succ]
          refine wpAnyH_take (i := 27) (oi := ?ooa27) (v := undef) ?hia27 (by kernel_rfl) ?h3a27 ?h4a27 ?h5a27 ?h6a27 (by assumption) ?h8a27
          case hia27 => (simp only [List.getElem?_toArray, List.getElem?_cons_succ, List.getElem?_cons_zero]; rfl)
          case h3a27 => kernel_rfl
          case h4a27 => kernel_rfl
          case h6a27 => exact Or.inr ⟨by rfl, rfl⟩
          case h5a27 => exact fun _ _ _ h => h
          try simp only [Act.put, List.setIfInBounds_toArray, List.set_cons_zero, List.set_cons_succ]
          refine wpAnyH_take (i := 28) (oi := ?ooa28) (v := undef) ?hia28 (by kernel_rfl) ?h3a28 ?h4a28 ?h5a28 ?h6a28 (by assumption) ?h8a28
          case hia28 => (simp only [List.getElem?_toArray, List.getElem?_cons_succ, List.getElem?_cons_zero]; rfl)
          case h3a28 => kernel_rfl
          case h4a28 => kernel_rfl
          case h6a28 => exact Or.inr ⟨by rfl, rfl⟩
          case h5a28 => exact fun _ _ _ h => h
          try simp only [Act.put, List.setIfInBounds_toArray, List.set_cons_zero, List.set_cons_succ]
          refine wpAnyH_take (i := 29) (oi := ?ooa29) (v := undef) ?hia29 (by kernel_rfl) ?h3a29 ?h4a29 ?h5a29 ?h6a29 (by assumption) ?h8a29
          case hia29 => (simp only [List.getElem?_toArray, List.getElem?_cons_succ, List.getElem?_cons_zero]; rfl)
          case h3a29 => kernel_rfl
          case h4a29 => kernel_rfl
          case h6a29 => exact Or.inr ⟨by rfl, rfl⟩
          case h5a29 => exact fun _ _ _ h => h
          try simp only [Act.put, List.setIfInBounds_toArray, List.set_cons_zero, List.set_cons_succ]
          refine wpAnyH_take (i := 30) (oi := ?ooa30) (v := undef) ?hia30 (by kernel_rfl) ?h3a30 ?h4a30 ?h5a30 ?h6a30 (by assumption) ?h8a30
          case hia30 => (simp only [List.getElem?_toArray, List.getElem?_cons_succ, List.getElem?_cons_zero]; rfl)
          case h3a30 => kernel_rfl
          case h4a30 => kernel_rfl
          case h6a30 => exact Or.inr ⟨by rfl, rfl⟩
          case h5a30 => exact fun _ _ _ h => h
          try simp only [Act.put, List.setIfInBounds_toArray, List.set_cons_zero, List.set_cons_succ]
          refine wpAnyH_take (i := 31) (oi := ?ooa31) (v := undef) ?hia31 (by kernel_rfl) ?h3a31 ?h4a31 ?h5a31 ?h6a31 (by assumption) ?h8a31
          case hia31 => (simp only [List.getElem?_toArray, List.getElem?_cons_succ, List.getElem?_cons_zero]; rfl)
          case h3a31 => kernel_rfl
          case h4a31 => kernel_rfl
          case h6a31 => exact Or.inr ⟨by rfl, rfl⟩
          case h5a31 => exact fun _ _ _ h => h
          try simp only [Act.put, List.setIfInBounds_toArray, List.set_cons_zero, List.set_cons_succ]
          refine wpAnyH_take (i := 32) (oi := ?ooa32) (v := undef) ?hia32 (by kernel_rfl) ?h3a32 ?h4a32 ?h5a32 ?h6a32 (by assumption) ?h8a32
          case hia32 => (simp only [List.getElem?_toArray, List.getElem?_cons_succ, List.getElem?_cons_zero]; rfl)
          case h3a32 => kernel_rfl
          case h4a32 => kernel_rfl
          case h6a32 => exact Or.inr ⟨by rfl, rfl⟩
          case h5a32 => exact fun _ _ _ h => h
          try simp only [Act.put, List.setIfInBounds_toArray, List.set_cons_zero, List.set_cons_succ]
          refine wpAnyH_take (i := 33) (oi := ?ooa33) (v := undef) ?hia33 (by kernel_rfl) ?h3a33 ?h4a33 ?h5a33 ?h6a33 (by assumption) ?h8a33
          case hia33 => (simp only [List.getElem?_toArray, List.getElem?_cons_succ, List.getElem?_cons_zero]; rfl)
          case h3a33 => kernel_rfl
          case h4a33 => kernel_rfl
          case h6a33 => exact Or.inr ⟨by rfl, rfl⟩
          case h5a33 => exact fun _ _ _ h => h
          try simp only [Act.put, List.setIfInBounds_toArray, List.set_cons_zero, List.set_cons_succ]
          refine wpAnyH_take (i := 34) (oi := ?ooa34) (v := undef) ?hia34 (by kernel_rfl) ?h3a34 ?h4a34 ?h5a34 ?h6a34 (by assumption) ?h8a34
          case hia34 => (simp only [List.getElem?_toArray, List.getElem?_cons_succ, List.getElem?_cons_zero]; rfl)
          case h3a34 => kernel_rfl
          case h4a34 => kernel_rfl
          case h6a34 => exact Or.inr ⟨by rfl, rfl⟩
          case h5a34 => exact fun _ _ _ h => h
          try simp only [Act.put, List.setIfInBounds_toArray, List.set_cons_zero, List.set_cons_succ]
          refine wpAnyH_take (i := 35) (oi := ?ooa35) (v := undef) ?hia35 (by kernel_rfl) ?h3a35 ?h4a35 ?h5a35 ?h6a35 (by assumption) ?h8a35
          case hia35 => (simp only [List.getElem?_toArray, List.getElem?_cons_succ, List.getElem?_cons_zero]; rfl)
          case h3a35 => kernel_rfl
          case h4a35 => kernel_rfl
          case h6a35 => exact Or.inr ⟨by rfl, rfl⟩
          case h5a35 => exact fun _ _ _ h => h
          try simp only [Act.put, List.setIfInBounds_toArray, List.set_cons_zero, List.set_cons_succ]
          refine wpAnyH_take (i := 36) (oi := ?ooa36) (v := undef) ?hia36 (by kernel_rfl) ?h3a36 ?h4a36 ?h5a36 ?h6a36 (by assumption) ?h8a36
          case hia36 => (simp only [List.getElem?_toArray, List.getElem?_cons_succ, List.getElem?_cons_zero]; rfl)
          case h3a36 => kernel_rfl
          case h4a36 => kernel_rfl
          case h6a36 => exact Or.inr ⟨by rfl, rfl⟩
          case h5a36 => exact fun _ _ _ h => h
          try simp only [Act.put, List.setIfInBounds_toArray, List.set_cons_zero, List.set_cons_succ]
          refine wpAnyH_take (i := 37) (oi := ?ooa37) (v := undef) ?hia37 (by kernel_rfl) ?h3a37 ?h4a37 ?h5a37 ?h6a37 (by assumption) ?h8a37
          case hia37 => (simp only [List.getElem?_toArray, List.getElem?_cons_succ, List.getElem?_cons_zero]; rfl)
          case h3a37 => kernel_rfl
          case h4a37 => kernel_rfl
          case h6a37 => exact Or.inr ⟨by rfl, rfl⟩
          case h5a37 => exact fun _ _ _ h => h
          try simp only [Act.put, List.setIfInBounds_toArray, List.set_cons_zero, List.set_cons_succ]
          refine wpAnyH_take (i := 38) (oi := ?ooa38) (v := undef) ?hia38 (by kernel_rfl) ?h3a38 ?h4a38 ?h5a38 ?h6a38 (by assumption) ?h8a38
          case hia38 => (simp only [List.getElem?_toArray, List.getElem?_cons_succ, List.getElem?_cons_zero]; rfl)
          case h3a38 => kernel_rfl
          case h4a38 => kernel_rfl
          case h6a38 => exact Or.inr ⟨by rfl, rfl⟩
          case h5a38 => exact fun _ _ _ h => h
          try simp only [Act.put, List.setIfInBounds_toArray, List.set_cons_zero, List.set_cons_succ]
          refine wpAnyH_take (i := 39) (oi := ?ooa39) (v := undef) ?hia39 (by kernel_rfl) ?h3a39 ?h4a39 ?h5a39 ?h6a39 (by assumption) ?h8a39
          case hia39 => (simp only [List.getElem?_toArray, List.getElem?_cons_succ, List.getElem?_cons_zero]; rfl)
          case h3a39 => kernel_rfl
          case h4a39 => kernel_rfl
          case h6a39 => exact Or.inr ⟨by rfl, rfl⟩
          case h5a39 => exact fun _ _ _ h => h
          try simp only [Act.put, List.setIfInBounds_toArray, List.set_cons_zero, List.set_cons_succ]
          refine wpAnyH_take (i := 40) (oi := ?ooa40) (v := undef) ?hia40 (by kernel_rfl) ?h3a40 ?h4a40 ?h5a40 ?h6a40 (by assumption) ?h8a40
          case hia40 => (simp only [List.getElem?_toArray, List.getElem?_cons_succ, List.getElem?_cons_zero]; rfl)
          case h3a40 => kernel_rfl
          case h4a40 => kernel_rfl
          case h6a40 => exact Or.inr ⟨by rfl, rfl⟩
          case h5a40 => exact fun _ _ _ h => h
          try simp only [Act.put, List.setIfInBounds_toArray, List.set_cons_zero, List.set_cons_succ]
          refine wpAnyH_take (i := 41) (oi := ?ooa41) (v := undef) ?hia41 (by kernel_rfl) ?h3a41 ?h4a41 ?h5a41 ?h6a41 (by assumption) ?h8a41
          case hia41 => (simp only [List.getElem?_toArray, List.getElem?_cons_succ, List.getElem?_cons_zero]; rfl)
          case h3a41 => kernel_rfl
          case h4a41 => kernel_rfl
          case h6a41 => exact Or.inr ⟨by rfl, rfl⟩
          case h5a41 => exact fun _ _ _ h => h
          try simp only [Act.put, List.setIfInBounds_toArray, List.set_cons_zero, List.set_cons_succ]
          refine wpAnyH_take (i := 42) (oi := ?ooa42) (v := ?vva42) ?hia42 (by kernel_rfl) ?h3a42 ?h4a42 ?h5a42 ?h6a42 (by assumption) ?h8a42
          case hia42 => (simp only [List.getElem?_toArray, List.getElem?_cons_succ, List.getElem?_cons_zero]; rfl)
          case h3a42 => kernel_rfl
          case h4a42 => kernel_rfl
          case h6a42 => (refine Or.inl ⟨by rfl, ?_⟩; intro w hSw; (try dsimp only at hSw); (go_simp <;> with_reducible rfl))
          case h5a42 => exact fun _ _ _ h => h
          try simp only [Act.put, List.setIfInBounds_toArray, List.set_cons_zero, List.set_cons_succ]
          refine wpAnyH_done (by kernel_rfl) ?_ _
          go_wp2_with fail
          go_ret
          exact ⟨ret_bool HN.out.symm, HB.out.drew⟩
        · have h2 : 1 ≤ x ∧ x ≤ 999 := by omega
          clear hA
          cases hv : Wsh.vfB n d with
          | false =>
            have HV := Lib.hid hv
            have HN : Hid (vlR hs = false) := vl_noF hlt (by rw [HG.out, hv]; rfl)
            clear hv
            go_wp2_with fail
            refine wp_region_held_drew (S := fun w' => w'.cell? ⟨g, off + k * 3, none⟩ = some (.int .i64 x) ∧ w'.cell? ⟨g, off + k * 3 + 1, none⟩ = some (.int .i64 n) ∧ w'.cell? ⟨g, off + k * 3 + 2, none⟩ = some (.int .i64 d)) (by kernel_rfl) ?_ (fun hHeld => ?_)
            · exact ⟨c0, c1, c2⟩
            refine wpAnyH_take (i := 0) (oi := ?oob0) (v := ?vvb0) ?hib0 (by kernel_rfl) ?h3b0 ?h4b0 ?h5b0 ?h6b0 (by assumption) ?h8b0
            case hib0 => (simp only [List.getElem?_toArray, List.getElem?_cons_succ, List.getElem?_cons_zero]; rfl)
            case h3b0 => kernel_rfl
            case h4b0 => kernel_rfl
            case h6b0 => (refine Or.inl ⟨by rfl, ?_⟩; intro w hSw; (try dsimp only at hSw); (go_simp <;> with_reducible rfl))
            case h5b0 => exact fun _ _ _ h => h
            try simp only [Act.put, List.setIfInBounds_toArray, List.set_cons_zero, List.set_cons_succ]
            refine wpAnyH_take (i := 1) (oi := ?oob1) (v := ?vvb1) ?hib1 (by kernel_rfl) ?h3b1 ?h4b1 ?h5b1 ?h6b1 (by assumption) ?h8b1
            case hib1 => (simp only [List.getElem?_toArray, List.getElem?_cons_succ, List.getElem?_cons_zero]; rfl)
            case h3b1 => kernel_rfl
            case h4b1 => kernel_rfl
            case h6b1 => (refine Or.inl ⟨by rfl, ?_⟩; intro w hSw; (try dsimp only at hSw); (go_simp <;> with_reducible rfl))
            case h5b1 => exact fun _ _ _ h => h
            try simp only [Act.put, List.setIfInBounds_toArray, List.set_cons_zero, List.set_cons_succ]
            refine wpAnyH_take (i := 2) (oi := ?oob2) (v := ?vvb2) ?hib2 (by kernel_rfl) ?h3b2 ?h4b2 ?h5b2 ?h6b2 (by assumption) ?h8b2
            case hib2 => (simp only [List.getElem?_toArray, List.getElem?_cons_succ, List.getElem?_cons_zero]; rfl)
            case h3b2 => kernel_rfl
            case h4b2 => kernel_rfl
            case h6b2 => (refine Or.inl ⟨by rfl, ?_⟩; intro w hSw; (try dsimp only at hSw); (go_simp <;> with_reducible rfl))
            case h5b2 => exact fun _ _ _ h => h
            try simp only [Act.put, List.setIfInBounds_toArray, List.set_cons_zero, List.set_cons_succ]
            refine wpAnyH_take (i := 3) (oi := ?oob3) (v := ?vvb3) ?hib3 (by kernel_rfl) ?h3b3 ?h4b3 ?h5b3 ?h6b3 (by assumption) ?h8b3
            case hib3 => (simp only [List.getElem?_toArray, List.getElem?_cons_succ, List.getElem?_cons_zero]; rfl)
            case h3b3 => kernel_rfl
            case h4b3 => kernel_rfl
            case h6b3 => (refine Or.inl ⟨by rfl, ?_⟩; intro w hSw; (try dsimp only at hSw); (go_simp <;> with_reducible rfl))
            case h5b3 => exact fun _ _ _ h => h
            try simp only [Act.put, List.setIfInBounds_toArray, List.set_cons_zero, List.set_cons_succ]
            refine wpAnyH_take (i := 4) (oi := ?oob4) (v := ?vvb4) ?hib4 (by kernel_rfl) ?h3b4 ?h4b4 ?h5b4 ?h6b4 (by assumption) ?h8b4
            case hib4 => (simp only [List.getElem?_toArray, List.getElem?_cons_succ, List.getElem?_cons_zero]; rfl)
            case h3b4 => kernel_rfl
            case h4b4 => kernel_rfl
            case h6b4 => (refine Or.inl ⟨by rfl, ?_⟩; intro w hSw; (try dsimp only at hSw); (go_simp <;> with_reducible rfl))
            case h5b4 => exact fun _ _ _ h => h
            try simp only [Act.put, List.setIfInBounds_toArray, List.set_cons_zero, List.set_cons_succ]
            refine wpAnyH_ready (rs := [5]) (by kernel_rfl) (by simp) (AllReadyH.cons (o := ?oob5) ?hib5 (fun K hK => ?hkb5) AllReadyH.nil)
            rotate_left
            case hib5 => (simp only [List.getElem?_toArray, List.getElem?_cons_succ, List.getElem?_cons_zero]; rfl)
            (rw [if_pos (by rfl)]; go_simp; refine (inRange_yes x 1 999 _ h2.1 h2.2).mono ?_; rintro e w3 ⟨rfl, rfl⟩; go_wp2_with fail; refine hK.out _ _ (by assumption) (fun hHeld => ?_); clear hK K)
            try simp only [Act.put, List.setIfInBounds_toArray, List.set_cons_zero, List.set_cons_succ]
            refine wpAnyH_take (i := 6) (oi := ?oob6) (v := ?vvb6) ?hib6 (by kernel_rfl) ?h3b6 ?h4b6 ?h5b6 ?h6b6 (by assumption) ?h8b6
            case hib6 => (simp only [List.getElem?_toArray, List.getElem?_cons_succ, List.getElem?_cons_zero]; rfl)
            case h3b6 => kernel_rfl
            case h4b6 => kernel_rfl
            case h6b6 => (refine Or.inl ⟨by rfl, ?_⟩; intro w hSw; (try dsimp only at hSw); (go_simp <;> with_reducible rfl))
            case h5b6 => exact fun _ _ _ h => h
            try simp only [Act.put, List.setIfInBounds_toArray, List.set_cons_zero, List.set_cons_succ]
            refine wpAnyH_take (i := 7) (oi := ?oob7) (v := ?vvb7) ?hib7 (by kernel_rfl) ?h3b7 ?h4b7 ?h5b7 ?h6b7 (by assumption) ?h8b7
            case hib7 => (simp only [List.getElem?_toArray, List.getElem?_cons_succ, List.getElem?_cons_zero]; rfl)
            case h3b7 => kernel_rfl
            case h4b7 => kernel_rfl
            case h6b7 => (refine Or.inl ⟨by rfl, ?_⟩; intro w hSw; (try dsimp only at hSw); (go_simp <;> with_reducible rfl))
            case h5b7 => exact fun _ _ _ h => h
            try simp only [Act.put, List.setIfInBounds_toArray, List.set_cons_zero, List.set_cons_succ]
            refine wpAnyH_take (i := 8) (oi := ?oob8) (v := ?vvb8) ?hib8 (by kernel_rfl) ?h3b8 ?h4b8 ?h5b8 ?h6b8 (by assumption) ?h8b8
            case hib8 => (simp only [List.getElem?_toArray, List.getElem?_cons_succ, List.getElem?_cons_zero]; rfl)
            case h3b8 => kernel_rfl
            case h4b8 => kernel_rfl
            case h6b8 => (refine Or.inl ⟨by rfl, ?_⟩; intro w hSw; (try dsimp only at hSw); (go_simp <;> with_reducible rfl))
            case h5b8 => exact fun _ _ _ h => h
            try simp only [Act.put, List.setIfInBounds_toArray, List.set_cons_zero, List.set_cons_succ]
            refine wpAnyH_take (i := 9) (oi := ?oob9) (v := ?vvb9) ?hib9 (by kernel_rfl) ?h3b9 ?h4b9 ?h5b9 ?h6b9 (by assumption) ?h8b9
            case hib9 => (simp only [List.getElem?_toArray, List.getElem?_cons_succ, List.getElem?_cons_zero]; rfl)
            case h3b9 => kernel_rfl
            case h4b9 => kernel_rfl
            case h6b9 => (refine Or.inl ⟨by rfl, ?_⟩; intro w hSw; (try dsimp only at hSw); (go_simp <;> with_reducible rfl))
            case h5b9 => exact fun _ _ _ h => h
            try simp only [Act.put, List.setIfInBounds_toArray, List.set_cons_zero, List.set_cons_succ]
            refine wpAnyH_take (i := 10) (oi := ?oob10) (v := ?vvb10) ?hib10 (by kernel_rfl) ?h3b10 ?h4b10 ?h5b10 ?h6b10 (by assumption) ?h8b10
            case hib10 => (simp only [List.getElem?_toArray, List.getElem?_cons_succ, List.getElem?_cons_zero]; rfl)
            case h3b10 => kernel_rfl
            case h4b10 => kernel_rfl
            case h6b10 => (refine Or.inl ⟨by rfl, ?_⟩; intro w hSw; (try dsimp only at hSw); (go_simp <;> with_reducible rfl))
            case h5b10 => exact fun _ _ _ h => h
            try simp only [Act.put, List.setIfInBounds_toArray, List.set_cons_zero, List.set_cons_succ]
            refine wpAnyH_take (i := 11) (oi := ?oob11) (v := ?vvb11) ?hib11 (by kernel_rfl) ?h3b11 ?h4b11 ?h5b11 ?h6b11 (by assumption) ?h8b11
            case hib11 => (simp only [List.getElem?_toArray, List.getElem?_cons_succ, List.getElem?_cons_zero]; rfl)
            case h3b11 => kernel_rfl
            case h4b11 => kernel_rfl
            case h6b11 => (refine Or.inl ⟨by rfl, ?_⟩; intro w hSw; (try dsimp only at hSw); (go_simp <;> with_reducible rfl))
            case h5b11 => exact fun _ _ _ h => h
            try simp only [Act.put, List.setIfInBounds_toArray, List.set_cons_zero, List.set_cons_succ]
            refine wpAnyH_take (i := 12) (oi := ?oob12) (v := ?vvb12) ?hib12 (by kernel_rfl) ?h3b12 ?h4b12 ?h5b12 ?h6b12 (by assumption) ?h8b12
            case hib12 => (simp only [List.getElem?_toArray, List.getElem?_cons_succ, List.getElem?_cons_zero]; rfl)
            case h3b12 => kernel_rfl
            case h4b12 => kernel_rfl
            case h6b12 => (refine Or.inl ⟨by rfl, ?_⟩; intro w hSw; (try dsimp only at hSw); (go_simp <;> with_reducible rfl))
            case h5b12 => exact fun _ _ _ h => h
            try simp only [Act.put, List.setIfInBounds_toArray, List.set_cons_zero, List.set_cons_succ]
            refine wpAnyH_ready (rs := [13]) (by kernel_rfl) (by simp) (AllReadyH.cons (o := ?oob13) ?hib13 (fun K hK => ?hkb13) AllReadyH.nil)
            rotate_left
            case hib13 => (simp only [List.getElem?_toArray, List.getElem?_cons_succ, List.getElem?_cons_zero]; rfl)
            (rw [if_pos (by rfl)]; go_simp; refine (vf_boolN HV.out _).mono ?_; rintro e w3 ⟨rfl, hb⟩; go_wp2_with fail; refine hK.out _ _ (keep3 hb (by assumption)) (fun hHeld => ?_); clear hK K)
            try simp only [Act.put, List.setIfInBounds_toArray, List.set_cons_zero, List.set_cons_succ]
            refine wpAnyH_take (i := 14) (oi := ?oob14) (v := ?vvb14) ?hib14 (by kernel_rfl) ?h3b14 ?h4b14 ?h5b14 ?h6b14 (by assumption) ?h8b14
            case hib14 => (simp only [List.getElem?_toArray, List.getElem?_cons_succ, List.getElem?_cons_zero]; rfl)
            case h3b14 => kernel_rfl
            case h4b14 => kernel_rfl
            case h6b14 => (refine Or.inl ⟨by rfl, ?_⟩; intro w hSw; (try dsimp only at hSw); (go_simp <;> with_reducible rfl))
            case h5b14 => exact fun _ _ _ h => h
            try simp only [Act.put, List.setIfInBounds_toArray, List.set_cons_zero, List.set_cons_succ]
            refine wpAnyH_take (i := 15) (oi := ?oob15) (v := ?vvb15) ?hib15 (by kernel_rfl) ?h3b15 ?h4b15 ?h5b15 ?h6b15 (by assumption) ?h8b15
            case hib15 => (simp only [List.getElem?_toArray, List.getElem?_cons_succ, List.getElem?_cons_zero]; rfl)
            case h3b15 => kernel_rfl
            case h4b15 => kernel_rfl
            case h6b15 => (refine Or.inl ⟨by rfl, ?_⟩; intro w hSw; (try dsimp only at hSw); (go_simp <;> with_reducible rfl))
            case h5b15 => exact fun _ _ _ h => h
            try simp only [Act.put, List.setIfInBounds_toArray, List.set_cons_zero, List.set_cons_succ]
            refine wpAnyH_take (i := 16) (oi := ?oob16) (v := ?vvb16) ?hib16 (by kernel_rfl) ?h3b16 ?h4b16 ?h5b16 ?h6b16 (by assumption) ?h8b16
            case hib16 => (simp only [List.getElem?_toArray, List.getElem?_cons_succ, List.getElem?_cons_zero]; rfl)
            case h3b16 => kernel_rfl
            case h4b16 => kernel_rfl
            case h6b16 => (refine Or.inl ⟨by rfl, ?_⟩; intro w hSw; (try dsimp only at hSw); (go_simp <;> with_reducible rfl))
            case h5b16 => exact fun _ _ _ h => h
            try simp only [Act.put, List.setIfInBounds_toArray, List.set_cons_zero, List.set_cons_succ]
            refine wpAnyH_take (i := 17) (oi := ?oob17) (v := undef) ?hib17 (by kernel_rfl) ?h3b17 ?h4b17 ?h5b17 ?h6b17 (by assumption) ?h8b17
            case hib17 => (simp only [List.getElem?_toArray, List.getElem?_cons_succ, List.getElem?_cons_zero]; rfl)
            case h3b17 => kernel_rfl
            case h4b17 => kernel_rfl
            case h6b17 => exact Or.inr ⟨by rfl, rfl⟩
            case h5b17 => exact fun _ _ _ h => h
            try simp only [Act.put, List.setIfInBounds_toArray, List.set_cons_zero, List.set_cons_succ]
            refine wpAnyH_take (i := 18) (oi := ?oob18) (v := undef) ?hib18 (by kernel_rfl) ?h3b18 ?h4b18 ?h5b18 ?h6b18 (by assumption) ?h8b18
            case hib18 => (simp only [List.getElem?_toArray, List.getElem?_cons_succ, List.getElem?_cons_zero]; rfl)
            case h3b18 => kernel_rfl
            case h4b18 => kernel_rfl
            case h6b18 => exact Or.inr ⟨by rfl, rfl⟩
            case h5b18 => exact fun _ _ _ h => h
            try simp only [Act.put, List.setIfInBounds_toArray, List.set_cons_zero, List.set_cons_succ]
            refine wpAnyH_take (i := 19) (oi := ?oob19) (v := undef) ?hib19 (by kernel_rfl) ?h3b19 ?h4b19 ?h5b19 ?h6b19 (by assumption) ?h8b19
            case hib19 => (simp only [List.getElem?_toArray, List.getElem?_cons_succ, List.getElem?_cons_zero]; rfl)
            case h3b19 => kernel_rfl
            case h4b19 => kernel_rfl
            case h6b19 => exact Or.inr ⟨by rfl, rfl⟩
            case h5b19 => exact fun _ _ _ h => h
            try simp only [Act.put, List.setIfInBounds_toArray, List.set_cons_zero, List.set_cons_succ]
            refine wpAnyH_take (i := 20) (oi := ?oob20) (v := undef) ?hib20 (by kernel_rfl) ?h3b20 ?h4b20 ?h5b20 ?h6b20 (by assumption) ?h8b20
            case hib20 => (simp only [List.getElem?_toArray, List.getElem?_cons_succ, List.getElem?_cons_zero]; rfl)
            case h3b20 => kernel_rfl
            case h4b20 => kernel_rfl
            case h6b20 => exact Or.inr ⟨by rfl, rfl⟩
            case h5b20 => exact fun _ _ _ h => h
            try simp only [Act.put, List.setIfInBounds_toArray, List.set_cons_zero, List.set_cons_succ]
            refine wpAnyH_take (i := 21) (oi := ?oob21) (v := undef) ?hib21 (by kernel_rfl) ?h3b21 ?h4b21 ?h5b21 ?h6b21 (by assumption) ?h8b21
            case hib21 => (simp only [List.getElem?_toArray, List.getElem?_cons_succ, List.getElem?_cons_zero]; rfl)
            case h3b21 => kernel_rfl
            case h4b21 => kernel_rfl
            case h6b21 => exact Or.inr ⟨by rfl, rfl⟩
            case h5b21 => exact fun _ _ _ h => h
            try simp only [Act.put, List.setIfInBounds_toArray, List.set_cons_zero, List.set_cons_succ]
            refine wpAnyH_take (i := 22) (oi := ?oob22) (v := undef) ?hib22 (by kernel_rfl) ?h3b22 ?h4b22 ?h5b22 ?h6b22 (by assumption) ?h8b22
            case hib22 => (simp only [List.getElem?_toArray, List.getElem?_cons_succ, List.getElem?_cons_zero]; rfl)
            case h3b22 => kernel_rfl
            case h4b22 => kernel_rfl
            case h6b22 => exact Or.inr ⟨by rfl, rfl⟩
            case h5b22 => exact fun _ _ _ h => h
            try simp only [Act.put, List.setIfInBounds_toArray, List.set_cons_zero, List.set_cons_succ]
            refine wpAnyH_take (i := 23) (oi := ?oob23) (v := undef) ?hib23 (by kernel_rfl) ?h3b23 ?h4b23 ?h5b23 ?h6b23 (by assumption) ?h8b23
            case hib23 => (simp only [List.getElem?_toArray, List.getElem?_cons_succ, List.getElem?_cons_zero]; rfl)
            case h3b23 => kernel_rfl
            case h4b23 => kernel_rfl
            case h6b23 => exact Or.inr ⟨by rfl, rfl⟩
            case h5b23 => exact fun _ _ _ h => h
            try simp only [Act.put, List.setIfInBounds_toArray, List.set_cons_zero, List.set_cons_succ]
            refine wpAnyH_take (i := 24) (oi := ?oob24) (v := ?vvb24) ?hib24 (by kernel_rfl) ?h3b24 ?h4b24 ?h5b24 ?h6b24 (by assumption) ?h8b24
            case hib24 => (simp only [List.getElem?_toArray, List.getElem?_cons_succ, List.getElem?_cons_zero]; rfl)
            case h3b24 => kernel_rfl
            case h4b24 => kernel_rfl
            case h6b24 => (refine Or.inl ⟨by rfl, ?_⟩; intro w hSw; (try dsimp only at hSw); (go_simp <;> with_reducible rfl))
            case h5b24 => exact fun _ _ _ h => h
            try simp only [Act.put, List.setIfInBounds_toArray, List.set_cons_zero, List.set_cons_succ]
            refine wpAnyH_take (i := 25) (oi := ?oob25) (v := ?vvb25) ?hib25 (by kernel_rfl) ?h3b25 ?h4b25 ?h5b25 ?h6b25 (by assumption) ?h8b25
            case hib25 => (simp only [List.getElem?_toArray, List.getElem?_cons_succ, List.getElem?_cons_zero]; rfl)
            case h3b25 => kernel_rfl
            case h4b25 => kernel_rfl
            case h6b25 => (refine Or.inl ⟨by rfl, ?_⟩; intro w hSw; (try dsimp only at hSw); (go_simp <;> with_reducible rfl))
            case h5b25 => exact fun _ _ _ h => h
            try simp only [Act.put, List.setIfInBounds_toArray, List.set_cons_zero, List.set_cons_succ]
            refine wpAnyH_take (i := 26) (oi := ?oob26) (v := undef) ?hib26 (by kernel_rfl) ?h3b26 ?h4b26 ?h5b26 ?h6b26 (by assumption) ?h8b26
            case hib26 => (simp only [List.getElem?_toArray, List.getElem?_cons_succ, List.getElem?_cons_zero]; rfl)
            case h3b26 => kernel_rfl
            case h4b26 => kernel_rfl
            case h6b26 => exact Or.inr ⟨by rfl, rfl⟩
            case h5b26 => exact fun _ _ _ h => h
            try simp only [Act.put, List.setIfInBounds_toArray, List.set_cons_zero, List.set_cons_succ]
            refine wpAnyH_take (i := 27) (oi := ?oob27) (v := undef) ?hib27 (by kernel_rfl) ?h3b27 ?h4b27 ?h5b27 ?h6b27 (by assumption) ?h8b27
            case hib27 => (simp only [List.getElem?_toArray, List.getElem?_cons_succ, List.getElem?_cons_zero]; rfl)
            case h3b27 => kernel_rfl
            case h4b27 => kernel_rfl
            case h6b27 => exact Or.inr ⟨by rfl, rfl⟩
            case h5b27 => exact fun _ _ _ h => h
            try simp only [Act.put, List.setIfInBounds_toArray, List.set_cons_zero, List.set_cons_succ]
            refine wpAnyH_take (i := 28) (oi := ?oob28) (v := undef) ?hib28 (by kernel_rfl) ?h3b28 ?h4b28 ?h5b28 ?h6b28 (by assumption) ?h8b28
            case hib28 => (simp only [List.getElem?_toArray, List.getElem?_cons_succ, List.getElem?_cons_zero]; rfl)
            case h3b28 => kernel_rfl
            case h4b28 => kernel_rfl
            case h6b28 => exact Or.inr ⟨by rfl, rfl⟩
            case h5b28 => exact fun _ _ _ h => h
            try simp only [Act.put, List.setIfInBounds_toArray, List.set_cons_zero, List.set_cons_succ]
            refine wpAnyH_take (i := 29) (oi := ?oob29) (v := undef) ?hib29 (by kernel_rfl) ?h3b29 ?h4b29 ?h5b29 ?h6b29 (by assumption) ?h8b29
            case hib29 => (simp only [List.getElem?_toArray, List.getElem?_cons_succ, List.getElem?_cons_zero]; rfl)
            case h3b29 => kernel_rfl
            case h4b29 => kernel_rfl
            case h6b29 => exact Or.inr ⟨by rfl, rfl⟩
            case h5b29 => exact fun _ _ _ h => h
            try simp only [Act.put, List.setIfInBounds_toArray, List.set_cons_zero, List.set_cons_succ]
            refine wpAnyH_take (i := 30) (oi := ?oob30) (v := undef) ?hib30 (by kernel_rfl) ?h3b30 ?h4b30 ?h5b30 ?h6b30 (by assumption) ?h8b30
            case hib30 => (simp only [List.getElem?_toArray, List.getElem?_cons_succ, List.getElem?_cons_zero]; rfl)
            case h3b30 => kernel_rfl
            case h4b30 => kernel_rfl
            case h6b30 => exact Or.inr ⟨by rfl, rfl⟩
            case h5b30 => exact fun _ _ _ h => h
            try simp only [Act.put, List.setIfInBounds_toArray, List.set_cons_zero, List.set_cons_succ]
            refine wpAnyH_take (i := 31) (oi := ?oob31) (v := undef) ?hib31 (by kernel_rfl) ?h3b31 ?h4b31 ?h5b31 ?h6b31 (by assumption) ?h8b31
            case hib31 => (simp only [List.getElem?_toArray, List.getElem?_cons_succ, List.getElem?_cons_zero]; rfl)
            case h3b31 => kernel_rfl
            case h4b31 => kernel_rfl
            case h6b31 => exact Or.inr ⟨by rfl, rfl⟩
            case h5b31 => exact fun _ _ _ h => h
            try simp only [Act.put, List.setIfInBounds_toArray, List.set_cons_zero, List.set_cons_succ]
            refine wpAnyH_take (i := 32) (oi := ?oob32) (v := undef) ?hib32 (by kernel_rfl) ?h3b32 ?h4b32 ?h5b32 ?h6b32 (by assumption) ?h8b32
            case hib32 => (simp only [List.getElem?_toArray, List.getElem?_cons_succ, List.getElem?_cons_zero]; rfl)
            case h3b32 => kernel_rfl
            case h4b32 => kernel_rfl
            case h6b32 => exact Or.inr ⟨by rfl, rfl⟩
            case h5b32 => exact fun _ _ _ h => h
            try simp only [Act.put, List.setIfInBounds_toArray, List.set_cons_zero, List.set_cons_succ]
            refine wpAnyH_take (i := 33) (oi := ?oob33) (v := undef) ?hib33 (by kernel_rfl) ?h3b33 ?h4b33 ?h5b33 ?h6b33 (by assumption) ?h8b33
            case hib33 => (simp only [List.getElem?_toArray, List.getElem?_cons_succ, List.getElem?_cons_zero]; rfl)
            case h3b33 => kernel_rfl
            case h4b33 => kernel_rfl
            case h6b33 => exact Or.inr ⟨by rfl, rfl⟩
            case h5b33 => exact fun _ _ _ h => h
            try simp only [Act.put, List.setIfInBounds_toArray, List.set_cons_zero, List.set_cons_succ]
            refine wpAnyH_take (i := 34) (oi := ?oob34) (v := undef) ?hib34 (by kernel_rfl) ?h3b34 ?h4b34 ?h5b34 ?h6b34 (by assumption) ?h8b34
            case hib34 => (simp only [List.getElem?_toArray, List.getElem?_cons_succ, List.getElem?_cons_zero]; rfl)
            case h3b34 => kernel_rfl
            case h4b34 => kernel_rfl
            case h6b34 => exact Or.inr ⟨by rfl, rfl⟩
            case h5b34 => exact fun _ _ _ h => h
            try simp only [Act.put, List.setIfInBounds_toArray, List.set_cons_zero, List.set_cons_succ]
            refine wpAnyH_take (i := 35) (oi := ?oob35) (v := undef) ?hib35 (by kernel_rfl) ?h3b35 ?h4b35 ?h5b35 ?h6b35 (by assumption) ?h8b35
            case hib35 => (simp only [List.getElem?_toArray, List.getElem?_cons_succ, List.getElem?_cons_zero]; rfl)
            case h3b35 => kernel_rfl
            case h4b35 => kernel_rfl
            case h6b35 => exact Or.inr ⟨by rfl, rfl⟩
            case h5b35 => exact fun _ _ _ h => h
            try simp only [Act.put, List.setIfInBounds_toArray, List.set_cons_zero, List.set_cons_succ]
            refine wpAnyH_take (i := 36) (oi := ?oob36) (v := undef) ?hib36 (by kernel_rfl) ?h3b36 ?h4b36 ?h5b36 ?h6b36 (by assumption) ?h8b36
            case hib36 => (simp only [List.getElem?_toArray, List.getElem?_cons_succ, List.getElem?_cons_zero]; rfl)
            case h3b36 => kernel_rfl
            case h4b36 => kernel_rfl
            case h6b36 => exact Or.inr ⟨by rfl, rfl⟩
            case h5b36 => exact fun _ _ _ h => h
            try simp only [Act.put, List.setIfInBounds_toArray, List.set_cons_zero, List.set_cons_succ]
            refine wpAnyH_take (i := 37) (oi := ?oob37) (v := undef) ?hib37 (by kernel_rfl) ?h3b37 ?h4b37 ?h5b37 ?h6b37 (by assumption) ?h8b37
            case hib37 => (simp only [List.getElem?_toArray, List.getElem?_cons_succ, List.getElem?_cons_zero]; rfl)
            case h3b37 => kernel_rfl
            case h4b37 => kernel_rfl
            case h6b37 => exact Or.inr ⟨by rfl, rfl⟩
            case h5b37 => exact fun _ _ _ h => h
            try simp only [Act.put, List.setIfInBounds_toArray, List.set_cons_zero, List.set_cons_succ]
            refine wpAnyH_take (i := 38) (oi := ?oob38) (v := undef) ?hib38 (by kernel_rfl) ?h3b38 ?h4b38 ?h5b38 ?h6b38 (by assumption) ?h8b38
            case hib38 => (simp only [List.getElem?_toArray, List.getElem?_cons_succ, List.getElem?_cons_zero]; rfl)
            case h3b38 => kernel_rfl
            case h4b38 => kernel_rfl
            case h6b38 => exact Or.inr ⟨by rfl, rfl⟩
            case h5b38 => exact fun _ _ _ h => h
            try simp only [Act.put, List.setIfInBounds_toArray, List.set_cons_zero, List.set_cons_succ]
            refine wpAnyH_take (i := 39) (oi := ?oob39) (v := undef) ?hib39 (by kernel_rfl) ?h3b39 ?h4b39 ?h5b39 ?h6b39 (by assumption) ?h8b39
            case hib39 => (simp only [List.getElem?_toArray, List.getElem?_cons_succ, List.getElem?_cons_zero]; rfl)
            case h3b39 => kernel_rfl
            case h4b39 => kernel_rfl
            case h6b39 => exact Or.inr ⟨by rfl, rfl⟩
            case h5b39 => exact fun _ _ _ h => h
            try simp only [Act.put, List.setIfInBounds_toArray, List.set_cons_zero, List.set_cons_succ]
            refine wpAnyH_take (i := 40) (oi := ?oob40) (v := undef) ?hib40 (by kernel_rfl) ?h3b40 ?h4b40 ?h5b40 ?h6b40 (by assumption) ?h8b40
            case hib40 => (simp only [List.getElem?_toArray, List.getElem?_cons_succ, List.getElem?_cons_zero]; rfl)
            case h3b40 => kernel_rfl
            case h4b40 => kernel_rfl
            case h6b40 => exact Or.inr ⟨by rfl, rfl⟩
            case h5b40 => exact fun _ _ _ h => h
            try simp only [Act.put, List.setIfInBounds_toArray, List.set_cons_zero, List.set_cons_succ]
            refine wpAnyH_take (i := 41) (oi := ?oob41) (v := undef) ?hib41 (by kernel_rfl) ?h3b41 ?h4b41 ?h5b41 ?h6b41 (by assumption) ?h8b41
            case hib41 => (simp only [List.getElem?_toArray, List.getElem?_cons_succ, List.getElem?_cons_zero]; rfl)
            case h3b41 => kernel_rfl
            case h4b41 => kernel_rfl
            case h6b41 => exact Or.inr ⟨by rfl, rfl⟩
            case h5b41 => exact fun _ _ _ h => h
            try simp only [Act.put, List.setIfInBounds_toArray, List.set_cons_zero, List.set_cons_succ]
            refine wpAnyH_take (i := 42) (oi := ?oob42) (v := ?vvb42) ?hib42 (by kernel_rfl) ?h3b42 ?h4b42 ?h5b42 ?h6b42 (by assumption) ?h8b42
            case hib42 => (simp only [List.getElem?_toArray, List.getElem?_cons_succ, List.getElem?_cons_zero]; rfl)
            case h3b42 => kernel_rfl
            case h4b42 => kernel_rfl
            case h6b42 => (refine Or.inl ⟨by rfl, ?_⟩; intro w hSw; (try dsimp only at hSw); (go_simp <;> with_reducible rfl))
            case h5b42 => exact fun _ _ _ h => h
            try simp only [Act.put, List.setIfInBounds_toArray, List.set_cons_zero, List.set_cons_succ]
            refine wpAnyH_done (by kernel_rfl) ?_ _
            go_wp2_with fail
            go_ret
            exact ⟨ret_bool HN.out.symm, bel_tr HB.out.drew hb⟩
          | true =>
            have HV := Lib.hid hv
            by_cases hz : n = 0
            · have HN : Hid (vlR hs = false) := vl_noF hlt (by rw [HG.out, hz]; simp)
              have z0 : (n == 0) = true := by simpa using hz
              clear hv hz
              go_wp2_with fail
              refine wp_region_held_drew (S := fun w' => w'.cell? ⟨g, off + k * 3, none⟩ = some (.int .i64 x) ∧ w'.cell? ⟨g, off + k * 3 + 1, none⟩ = some (.int .i64 n) ∧ w'.cell? ⟨g, off + k * 3 + 2, none⟩ = some (.int .i64 d)) (by kernel_rfl) ?_ (fun hHeld => ?_)
              · exact ⟨c0, c1, c2⟩
              refine wpAnyH_take (i := 0) (oi := ?ooc0) (v := ?vvc0) ?hic0 (by kernel_rfl) ?h3c0 ?h4c0 ?h5c0 ?h6c0 (by assumption) ?h8c0
              case hic0 => (simp only [List.getElem?_toArray, List.getElem?_cons_succ, List.getElem?_cons_zero]; rfl)
              case h3c0 => kernel_rfl
              case h4c0 => kernel_rfl
              case h6c0 => (refine Or.inl ⟨by rfl, ?_⟩; intro w hSw; (try dsimp only at hSw); (go_simp <;> with_reducible rfl))
              case h5c0 => exact fun _ _ _ h => h
              try simp only [Act.put, List.setIfInBounds_toArray, List.set_cons_zero, List.set_cons_succ]
              refine wpAnyH_take (i := 1) (oi := ?ooc1) (v := ?vvc1) ?hic1 (by kernel_rfl) ?h3c1 ?h4c1 ?h5c1 ?h6c1 (by assumption) ?h8c1
              case hic1 => (simp only [List.getElem?_toArray, List.getElem?_cons_succ, List.getElem?_cons_zero]; rfl)
              case h3c1 => kernel_rfl
              case h4c1 => kernel_rfl
              case h6c1 => (refine Or.inl ⟨by rfl, ?_⟩; intro w hSw; (try dsimp only at hSw); (go_simp <;> with_reducible rfl))
              case h5c1 => exact fun _ _ _ h => h
              try simp only [Act.put, List.setIfInBounds_toArray, List.set_cons_zero, List.set_cons_succ]
              refine wpAnyH_take (i := 2) (oi := ?ooc2) (v := ?vvc2) ?hic2 (by kernel_rfl) ?h3c2 ?h4c2 ?h5c2 ?h6c2 (by assumption) ?h8c2
              case hic2 => (simp only [List.getElem?_toArray, List.getElem?_cons_succ, List.getElem?_cons_zero]; rfl)
              case h3c2 => kernel_rfl
              case h4c2 => kernel_rfl
              case h6c2 => (refine Or.inl ⟨by rfl, ?_⟩; intro w hSw; (try dsimp only at hSw); (go_simp <;> with_reducible rfl))
              case h5c2 => exact fun _ _ _ h => h
              try simp only [Act.put, List.setIfInBounds_toArray, List.set_cons_zero, List.set_cons_succ]
              refine wpAnyH_take (i := 3) (oi := ?ooc3) (v := ?vvc3) ?hic3 (by kernel_rfl) ?h3c3 ?h4c3 ?h5c3 ?h6c3 (by assumption) ?h8c3
              case hic3 => (simp only [List.getElem?_toArray, List.getElem?_cons_succ, List.getElem?_cons_zero]; rfl)
              case h3c3 => kernel_rfl
              case h4c3 => kernel_rfl
              case h6c3 => (refine Or.inl ⟨by rfl, ?_⟩; intro w hSw; (try dsimp only at hSw); (go_simp <;> with_reducible rfl))
              case h5c3 => exact fun _ _ _ h => h
              try simp only [Act.put, List.setIfInBounds_toArray, List.set_cons_zero, List.set_cons_succ]
              refine wpAnyH_take (i := 4) (oi := ?ooc4) (v := ?vvc4) ?hic4 (by kernel_rfl) ?h3c4 ?h4c4 ?h5c4 ?h6c4 (by assumption) ?h8c4
              case hic4 => (simp only [List.getElem?_toArray, List.getElem?_cons_succ, List.getElem?_cons_zero]; rfl)
              case h3c4 => kernel_rfl
              case h4c4 => kernel_rfl
              case h6c4 => (refine Or.inl ⟨by rfl, ?_⟩; intro w hSw; (try dsimp only at hSw); (go_simp <;> with_reducible rfl))
              case h5c4 => exact fun _ _ _ h => h
              try simp only [Act.put, List.setIfInBounds_toArray, List.set_cons_zero, List.set_cons_succ]
              refine wpAnyH_ready (rs := [5]) (by kernel_rfl) (by simp) (AllReadyH.cons (o := ?ooc5) ?hic5 (fun K hK => ?hkc5) AllReadyH.nil)
              rotate_left
              case hic5 => (simp only [List.getElem?_toArray, List.getElem?_cons_succ, List.getElem?_cons_zero]; rfl)
              (rw [if_pos (by rfl)]; go_simp; refine (inRange_yes x 1 999 _ h2.1 h2.2).mono ?_; rintro e w3 ⟨rfl, rfl⟩; go_wp2_with fail; refine hK.out _ _ (by assumption) (fun hHeld => ?_); clear hK K)
              try simp only [Act.put, List.setIfInBounds_toArray, List.set_cons_zero, List.set_cons_succ]
              refine wpAnyH_take (i := 6) (oi := ?ooc6) (v := ?vvc6) ?hic6 (by kernel_rfl) ?h3c6 ?h4c6 ?h5c6 ?h6c6 (by assumption) ?h8c6
              case hic6 => (simp only [List.getElem?_toArray, List.getElem?_cons_succ, List.getElem?_cons_zero]; rfl)
              case h3c6 => kernel_rfl
              case h4c6 => kernel_rfl
              case h6c6 => (refine Or.inl ⟨by rfl, ?_⟩; intro w hSw; (try dsimp only at hSw); (go_simp <;> with_reducible rfl))
              case h5c6 => exact fun _ _ _ h => h
              try simp only [Act.put, List.setIfInBounds_toArray, List.set_cons_zero, List.set_cons_succ]
              refine wpAnyH_take (i := 7) (oi := ?ooc7) (v := ?vvc7) ?hic7 (by kernel_rfl) ?h3c7 ?h4c7 ?h5c7 ?h6c7 (by assumption) ?h8c7
              case hic7 => (simp only [List.getElem?_toArray, List.getElem?_cons_succ, List.getElem?_cons_zero]; rfl)
              case h3c7 => kernel_rfl
              case h4c7 => kernel_rfl
              case h6c7 => (refine Or.inl ⟨by rfl, ?_⟩; intro w hSw; (try dsimp only at hSw); (go_simp <;> with_reducible rfl))
              case h5c7 => exact fun _ _ _ h => h
              try simp only [Act.put, List.setIfInBounds_toArray, List.set_cons_zero, List.set_cons_succ]
              refine wpAnyH_take (i := 8) (oi := ?ooc8) (v := ?vvc8) ?hic8 (by kernel_rfl) ?h3c8 ?h4c8 ?h5c8 ?h6c8 (by assumption) ?h8c8
              case hic8 => (simp only [List.getElem?_toArray, List.getElem?_cons_succ, List.getElem?_cons_zero]; rfl)
              case h3c8 => kernel_rfl
              case h4c8 => kernel_rfl
              case h6c8 => (refine Or.inl ⟨by rfl, ?_⟩; intro w hSw; (try dsimp only at hSw); (go_simp <;> with_reducible rfl))
              case h5c8 => exact fun _ _ _ h => h
              try simp only [Act.put, List.setIfInBounds_toArray, List.set_cons_zero, List.set_cons_succ]
              refine wpAnyH_take (i := 9) (oi := ?ooc9) (v := ?vvc9) ?hic9 (by kernel_rfl) ?h3c9 ?h4c9 ?h5c9 ?h6c9 (by assumption) ?h8c9
              case hic9 => (simp only [List.getElem?_toArray, List.getElem?_cons_succ, List.getElem?_cons_zero]; rfl)
              case h3c9 => kernel_rfl
              case h4c9 => kernel_rfl
              case h6c9 => (refine Or.inl ⟨by rfl, ?_⟩; intro w hSw; (try dsimp only at hSw); (go_simp <;> with_reducible rfl))
              case h5c9 => exact fun _ _ _ h => h
              try simp only [Act.put, List.setIfInBounds_toArray, List.set_cons_zero, List.set_cons_succ]
              refine wpAnyH_take (i := 10) (oi := ?ooc10) (v := ?vvc10) ?hic10 (by kernel_rfl) ?h3c10 ?h4c10 ?h5c10 ?h6c10 (by assumption) ?h8c10
              case hic10 => (simp only [List.getElem?_toArray, List.getElem?_cons_succ, List.getElem?_cons_zero]; rfl)
              case h3c10 => kernel_rfl
              case h4c10 => kernel_rfl
              case h6c10 => (refine Or.inl ⟨by rfl, ?_⟩; intro w hSw; (try dsimp only at hSw); (go_simp <;> with_reducible rfl))
              case h5c10 => exact fun _ _ _ h => h
              try simp only [Act.put, List.setIfInBounds_toArray, List.set_cons_zero, List.set_cons_succ]
              refine wpAnyH_take (i := 11) (oi := ?ooc11) (v := ?vvc11) ?hic11 (by kernel_rfl) ?h3c11 ?h4c11 ?h5c11 ?h6c11 (by assumption) ?h8c11
              case hic11 => (simp only [List.getElem?_toArray, List.getElem?_cons_succ, List.getElem?_cons_zero]; rfl)
              case h3c11 => kernel_rfl
              case h4c11 => kernel_rfl
              case h6c11 => (refine Or.inl ⟨by rfl, ?_⟩; intro w hSw; (try dsimp only at hSw); (go_simp <;> with_reducible rfl))
              case h5c11 => exact fun _ _ _ h => h
              try simp only [Act.put, List.setIfInBounds_toArray, List.set_cons_zero, List.set_cons_succ]
              refine wpAnyH_take (i := 12) (oi := ?ooc12) (v := ?vvc12) ?hic12 (by kernel_rfl) ?h3c12 ?h4c12 ?h5c12 ?h6c12 (by assumption) ?h8c12
              case hic12 => (simp only [List.getElem?_toArray, List.getElem?_cons_succ, List.getElem?_cons_zero]; rfl)
              case h3c12 => kernel_rfl
              case h4c12 => kernel_rfl
              case h6c12 => (refine Or.inl ⟨by rfl, ?_⟩; intro w hSw; (try dsimp only at hSw); (go_simp <;> with_reducible rfl))
              case h5c12 => exact fun _ _ _ h => h
              try simp only [Act.put, List.setIfInBounds_toArray, List.set_cons_zero, List.set_cons_succ]
              refine wpAnyH_ready (rs := [13]) (by kernel_rfl) (by simp) (AllReadyH.cons (o := ?ooc13) ?hic13 (fun K hK => ?hkc13) AllReadyH.nil)
              rotate_left
              case hic13 => (simp only [List.getElem?_toArray, List.getElem?_cons_succ, List.getElem?_cons_zero]; rfl)
              (rw [if_pos (by rfl)]; go_simp; refine (vf_boolY HV.out _).mono ?_; rintro e w3 ⟨rfl, hb⟩; go_wp2_with fail; refine hK.out _ _ (keep3 hb (by assumption)) (fun hHeld => ?_); clear hK K)
              try simp only [Act.put, List.setIfInBounds_toArray, List.set_cons_zero, List.set_cons_succ]
              refine wpAnyH_take (i := 14) (oi := ?ooc14) (v := ?vvc14) ?hic14 (by kernel_rfl) ?h3c14 ?h4c14 ?h5c14 ?h6c14 (by assumption) ?h8c14
              case hic14 => (simp only [List.getElem?_toArray, List.getElem?_cons_succ, List.getElem?_cons_zero]; rfl)
              case h3c14 => kernel_rfl
              case h4c14 => kernel_rfl
              case h6c14 => (refine Or.inl ⟨by rfl, ?_⟩; intro w hSw; (try dsimp only at hSw); (go_simp <;> with_reducible rfl))
              case h5c14 => exact fun _ _ _ h => h
              try simp only [Act.put, List.setIfInBounds_toArray, List.set_cons_zero, List.set_cons_succ]
              refine wpAnyH_take (i := 15) (oi := ?ooc15) (v := ?vvc15) ?hic15 (by kernel_rfl) ?h3c15 ?h4c15 ?h5c15 ?h6c15 (by assumption) ?h8c15
              case hic15 => (simp only [List.getElem?_toArray, List.getElem?_cons_succ, List.getElem?_cons_zero]; rfl)
              case h3c15 => kernel_rfl
              case h4c15 => kernel_rfl
              case h6c15 => (refine Or.inl ⟨by rfl, ?_⟩; intro w hSw; (try dsimp only at hSw); (go_simp <;> with_reducible rfl))
              case h5c15 => exact fun _ _ _ h => h
              try simp only [Act.put, List.setIfInBounds_toArray, List.set_cons_zero, List.set_cons_succ]
              refine wpAnyH_take (i := 16) (oi := ?ooc16) (v := ?vvc16) ?hic16 (by kernel_rfl) ?h3c16 ?h4c16 ?h5c16 ?h6c16 (by assumption) ?h8c16
              case hic16 => (simp only [List.getElem?_toArray, List.getElem?_cons_succ, List.getElem?_cons_zero]; rfl)
              case h3c16 => kernel_rfl
              case h4c16 => kernel_rfl
              case h6c16 => (refine Or.inl ⟨by rfl, ?_⟩; intro w hSw; (try dsimp only at hSw); (go_simp <;> with_reducible rfl))
              case h5c16 => exact fun _ _ _ h => h
              try simp only [Act.put, List.setIfInBounds_toArray, List.set_cons_zero, List.set_cons_succ]
              refine wpAnyH_take (i := 17) (oi := ?ooc17) (v := ?vvc17) ?hic17 (by kernel_rfl) ?h3c17 ?h4c17 ?h5c17 ?h6c17 (by assumption) ?h8c17
              case hic17 => (simp only [List.getElem?_toArray, List.getElem?_cons_succ, List.getElem?_cons_zero]; rfl)
              case h3c17 => kernel_rfl
              case h4c17 => kernel_rfl
              case h6c17 => (refine Or.inl ⟨by rfl, ?_⟩; intro w hSw; (try dsimp only at hSw); (go_simp <;> with_reducible rfl))
              case h5c17 => exact fun _ _ _ h => h
              try simp only [Act.put, List.setIfInBounds_toArray, List.set_cons_zero, List.set_cons_succ]
              refine wpAnyH_take (i := 18) (oi := ?ooc18) (v := ?vvc18) ?hic18 (by kernel_rfl) ?h3c18 ?h4c18 ?h5c18 ?h6c18 (by assumption) ?h8c18
              case hic18 => (simp only [List.getElem?_toArray, List.getElem?_cons_succ, List.getElem?_cons_zero]; rfl)
              case h3c18 => kernel_rfl
              case h4c18 => kernel_rfl
              case h6c18 => (refine Or.inl ⟨by rfl, ?_⟩; intro w hSw; (try dsimp only at hSw); (go_simp <;> with_reducible rfl))
              case h5c18 => exact fun _ _ _ h => h
              try simp only [Act.put, List.setIfInBounds_toArray, List.set_cons_zero, List.set_cons_succ]
              refine wpAnyH_take (i := 19) (oi := ?ooc19) (v := ?vvc19) ?hic19 (by kernel_rfl) ?h3c19 ?h4c19 ?h5c19 ?h6c19 (by assumption) ?h8c19
              case hic19 => (simp only [List.getElem?_toArray, List.getElem?_cons_succ, List.getElem?_cons_zero]; rfl)
              case h3c19 => kernel_rfl
              case h4c19 => kernel_rfl
              case h6c19 => (refine Or.inl ⟨by rfl, ?_⟩; intro w hSw; (try dsimp only at hSw); (go_simp <;> with_reducible rfl))
              case h5c19 => exact fun _ _ _ h => h
              try simp only [Act.put, List.setIfInBounds_toArray, List.set_cons_zero, List.set_cons_succ]
              refine wpAnyH_take (i := 20) (oi := ?ooc20) (v := ?vvc20) ?hic20 (by kernel_rfl) ?h3c20 ?h4c20 ?h5c20 ?h6c20 (by assumption) ?h8c20
              case hic20 => (simp only [List.getElem?_toArray, List.getElem?_cons_succ, List.getElem?_cons_zero]; rfl)
              case h3c20 => kernel_rfl
              case h4c20 => kernel_rfl
              case h6c20 => (refine Or.inl ⟨by rfl, ?_⟩; intro w hSw; (try dsimp only at hSw); (go_simp <;> with_reducible rfl))
              case h5c20 => exact fun _ _ _ h => h
              try simp only [Act.put, List.setIfInBounds_toArray, List.set_cons_zero, List.set_cons_succ]
              refine wpAnyH_take (i := 21) (oi := ?ooc21) (v := ?vvc21) ?hic21 (by kernel_rfl) ?h3c21 ?h4c21 ?h5c21 ?h6c21 (by assumption) ?h8c21
              case hic21 => (simp only [List.getElem?_toArray, List.getElem?_cons_succ, List.getElem?_cons_zero]; rfl)
              case h3c21 => kernel_rfl
              case h4c21 => kernel_rfl
              case h6c21 => (refine Or.inl ⟨by rfl, ?_⟩; intro w hSw; (try dsimp only at hSw); (go_simp <;> with_reducible rfl))
              case h5c21 => exact fun _ _ _ h => h
              try simp only [Act.put, List.setIfInBounds_toArray, List.set_cons_zero, List.set_cons_succ]
              refine wpAnyH_take (i := 22) (oi := ?ooc22) (v := ?vvc22) ?hic22 (by kernel_rfl) ?h3c22 ?h4c22 ?h5c22 ?h6c22 (by assumption) ?h8c22
              case hic22 => (simp only [List.getElem?_toArray, List.getElem?_cons_succ, List.getElem?_cons_zero]; rfl)
              case h3c22 => kernel_rfl
              case h4c22 => kernel_rfl
              case h6c22 => (refine Or.inl ⟨by rfl, ?_⟩; intro w hSw; (try dsimp only at hSw); (go_simp <;> with_reducible rfl))
              case h5c22 => exact fun _ _ _ h => h
              try simp only [Act.put, List.setIfInBounds_toArray, List.set_cons_zero, List.set_cons_succ]
              refine wpAnyH_take (i := 23) (oi := ?ooc23) (v := ?vvc23) ?hic23 (by kernel_rfl) ?h3c23 ?h4c23 ?h5c23 ?h6c23 (by assumption) ?h8c23
              case hic23 => (simp only [List.getElem?_toArray, List.getElem?_cons_succ, List.getElem?_cons_zero]; rfl)
              case h3c23 => kernel_rfl
              case h4c23 => kernel_rfl
              case h6c23 => (refine Or.inl ⟨by rfl, ?_⟩; intro w hSw; (try dsimp only at hSw); (go_simp <;> with_reducible rfl))
              case h5c23 => exact fun _ _ _ h => h
              try simp only [Act.put, List.setIfInBounds_toArray, List.set_cons_zero, List.set_cons_succ]
              refine wpAnyH_take (i := 24) (oi := ?ooc24) (v := ?vvc24) ?hic24 (by kernel_rfl) ?h3c24 ?h4c24 ?h5c24 ?h6c24 (by assumption) ?h8c24
              case hic24 => (simp only [List.getElem?_toArray, List.getElem?_cons_succ, List.getElem?_cons_zero]; rfl)
              case h3c24 => kernel_rfl
              case h4c24 => kernel_rfl
              case h6c24 => (refine Or.inl ⟨by rfl, ?_⟩; intro w hSw; (try dsimp only at hSw); (go_simp <;> with_reducible rfl))
              case h5c24 => exact fun _ _ _ h => h
              try simp only [Act.put, List.setIfInBounds_toArray, List.set_cons_zero, List.set_cons_succ]
              refine wpAnyH_take (i := 25) (oi := ?ooc25) (v := ?vvc25) ?hic25 (by kernel_rfl) ?h3c25 ?h4c25 ?h5c25 ?h6c25 (by assumption) ?h8c25
              case hic25 => (simp only [List.getElem?_toArray, List.getElem?_cons_succ, List.getElem?_cons_zero]; rfl)
              case h3c25 => kernel_rfl
              case h4c25 => kernel_rfl
              case h6c25 => (refine Or.inl ⟨by rfl, ?_⟩; intro w hSw; (try dsimp only at hSw); (go_simp <;> with_reducible rfl))
              case h5c25 => exact fun _ _ _ h => h
              try simp only [Act.put, List.setIfInBounds_toArray, List.set_cons_zero, List.set_cons_succ]
              refine wpAnyH_take (i := 26) (oi := ?ooc26) (v := undef) ?hic26 (by kernel_rfl) ?h3c26 ?h4c26 ?h5c26 ?h6c26 (by assumption) ?h8c26
              case hic26 => (simp only [List.getElem?_toArray, List.getElem?_cons_succ, List.getElem?_cons_zero]; rfl)
              case h3c26 => kernel_rfl
              case h4c26 => kernel_rfl
              case h6c26 => exact Or.inr ⟨by rfl, rfl⟩
              case h5c26 => exact fun _ _ _ h => h
              try simp only [Act.put, List.setIfInBounds_toArray, List.set_cons_zero, List.set_cons_succ]
              refine wpAnyH_take (i := 27) (oi := ?ooc27) (v := undef) ?hic27 (by kernel_rfl) ?h3c27 ?h4c27 ?h5c27 ?h6c27 (by assumption) ?h8c27
              case hic27 => (simp only [List.getElem?_toArray, List.getElem?_cons_succ, List.getElem?_cons_zero]; rfl)
              case h3c27 => kernel_rfl
              case h4c27 => kernel_rfl
              case h6c27 => exact Or.inr ⟨by rfl, rfl⟩
              case h5c27 => exact fun _ _ _ h => h
              try simp only [Act.put, List.setIfInBounds_toArray, List.set_cons_zero, List.set_cons_succ]
              refine wpAnyH_take (i := 28) (oi := ?ooc28) (v := undef) ?hic28 (by kernel_rfl) ?h3c28 ?h4c28 ?h5c28 ?h6c28 (by assumption) ?h8c28
              case hic28 => (simp only [List.getElem?_toArray, List.getElem?_cons_succ, List.getElem?_cons_zero]; rfl)
              case h3c28 => kernel_rfl
              case h4c28 => kernel_rfl
              case h6c28 => exact Or.inr ⟨by rfl, rfl⟩
              case h5c28 => exact fun _ _ _ h => h
              try simp only [Act.put, List.setIfInBounds_toArray, List.set_cons_zero, List.set_cons_succ]
              refine wpAnyH_take (i := 29) (oi := ?ooc29) (v := undef) ?hic29 (by kernel_rfl) ?h3c29 ?h4c29 ?h5c29 ?h6c29 (by assumption) ?h8c29
              case hic29 => (simp only [List.getElem?_toArray, List.getElem?_cons_succ, List.getElem?_cons_zero]; rfl)
              case h3c29 => kernel_rfl
              case h4c29 => kernel_rfl
              case h6c29 => exact Or.inr ⟨by rfl, rfl⟩
              case h5c29 => exact fun _ _ _ h => h
              try simp only [Act.put, List.setIfInBounds_toArray, List.set_cons_zero, List.set_cons_succ]
              refine wpAnyH_take (i := 30) (oi := ?ooc30) (v := undef) ?hic30 (by kernel_rfl) ?h3c30 ?h4c30 ?h5c30 ?h6c30 (by assumption) ?h8c30
              case hic30 => (simp only [List.getElem?_toArray, List.getElem?_cons_succ, List.getElem?_cons_zero]; rfl)
              case h3c30 => kernel_rfl
              case h4c30 => kernel_rfl
              case h6c30 => exact Or.inr ⟨by rfl, rfl⟩
              case h5c30 => exact fun _ _ _ h => h
              try simp only [Act.put, List.setIfInBounds_toArray, List.set_cons_zero, List.set_cons_succ]
              refine wpAnyH_take (i := 31) (oi := ?ooc31) (v := undef) ?hic31 (by kernel_rfl) ?h3c31 ?h4c31 ?h5c31 ?h6c31 (by assumption) ?h8c31
              case hic31 => (simp only [List.getElem?_toArray, List.getElem?_cons_succ, List.getElem?_cons_zero]; rfl)
              case h3c31 => kernel_rfl
              case h4c31 => kernel_rfl
              case h6c31 => exact Or.inr ⟨by rfl, rfl⟩
              case h5c31 => exact fun _ _ _ h => h
              try simp only [Act.put, List.setIfInBounds_toArray, List.set_cons_zero, List.set_cons_succ]
              refine wpAnyH_take (i := 32) (oi := ?ooc32) (v := undef) ?hic32 (by kernel_rfl) ?h3c32 ?h4c32 ?h5c32 ?h6c32 (by assumption) ?h8c32
              case hic32 => (simp only [List.getElem?_toArray, List.getElem?_cons_succ, List.getElem?_cons_zero]; rfl)
              case h3c32 => kernel_rfl
              case h4c32 => kernel_rfl
              case h6c32 => exact Or.inr ⟨by rfl, rfl⟩
              case h5c32 => exact fun _ _ _ h => h
              try simp only [Act.put, List.setIfInBounds_toArray, List.set_cons_zero, List.set_cons_succ]
              refine wpAnyH_take (i := 33) (oi := ?ooc33) (v := undef) ?hic33 (by kernel_rfl) ?h3c33 ?h4c33 ?h5c33 ?h6c33 (by assumption) ?h8c33
              case hic33 => (simp only [List.getElem?_toArray, List.getElem?_cons_succ, List.getElem?_cons_zero]; rfl)
              case h3c33 => kernel_rfl
              case h4c33 => kernel_rfl
              case h6c33 => exact Or.inr ⟨by rfl, rfl⟩
              case h5c33 => exact fun _ _ _ h => h
              try simp only [Act.put, List.setIfInBounds_toArray, List.set_cons_zero, List.set_cons_succ]
              refine wpAnyH_take (i := 34) (oi := ?ooc34) (v := undef) ?hic34 (by kernel_rfl) ?h3c34 ?h4c34 ?h5c34 ?h6c34 (by assumption) ?h8c34
              case hic34 => (simp only [List.getElem?_toArray, List.getElem?_cons_succ, List.getElem?_cons_zero]; rfl)
              case h3c34 => kernel_rfl
              case h4c34 => kernel_rfl
              case h6c34 => exact Or.inr ⟨by rfl, rfl⟩
              case h5c34 => exact fun _ _ _ h => h
              try simp only [Act.put, List.setIfInBounds_toArray, List.set_cons_zero, List.set_cons_succ]
              refine wpAnyH_take (i := 35) (oi := ?ooc35) (v := undef) ?hic35 (by kernel_rfl) ?h3c35 ?h4c35 ?h5c35 ?h6c35 (by assumption) ?h8c35
              case hic35 => (simp only [List.getElem?_toArray, List.getElem?_cons_succ, List.getElem?_cons_zero]; rfl)
              case h3c35 => kernel_rfl
              case h4c35 => kernel_rfl
              case h6c35 => exact Or.inr ⟨by rfl, rfl⟩
              case h5c35 => exact fun _ _ _ h => h
              try simp only [Act.put, List.setIfInBounds_toArray, List.set_cons_zero, List.set_cons_succ]
              refine wpAnyH_take (i := 36) (oi := ?ooc36) (v := undef) ?hic36 (by kernel_rfl) ?h3c36 ?h4c36 ?h5c36 ?h6c36 (by assumption) ?h8c36
              case hic36 => (simp only [List.getElem?_toArray, List.getElem?_cons_succ, List.getElem?_cons_zero]; rfl)
              case h3c36 => kernel_rfl
              case h4c36 => kernel_rfl
              case h6c36 => exact Or.inr ⟨by rfl, rfl⟩
              case h5c36 => exact fun _ _ _ h => h
              try simp only [Act.put, List.setIfInBounds_toArray, List.set_cons_zero, List.set_cons_succ]
              refine wpAnyH_take (i := 37) (oi := ?ooc37) (v := undef) ?hic37 (by kernel_rfl) ?h3c37 ?h4c37 ?h5c37 ?h6c37 (by assumption) ?h8c37
              case hic37 => (simp only [List.getElem?_toArray, List.getElem?_cons_succ, List.getElem?_cons_zero]; rfl)
              case h3c37 => kernel_rfl
              case h4c37 => kernel_rfl
              case h6c37 => exact Or.inr ⟨by rfl, rfl⟩
              case h5c37 => exact fun _ _ _ h => h
              try simp only [Act.put, List.setIfInBounds_toArray, List.set_cons_zero, List.set_cons_succ]
              refine wpAnyH_take (i := 38) (oi := ?ooc38) (v := undef) ?hic38 (by kernel_rfl) ?h3c38 ?h4c38 ?h5c38 ?h6c38 (by assumption) ?h8c38
              case hic38 => (simp only [List.getElem?_toArray, List.getElem?_cons_succ, List.getElem?_cons_zero]; rfl)
              case h3c38 => kernel_rfl
              case h4c38 => kernel_rfl
              case h6c38 => exact Or.inr ⟨by rfl, rfl⟩
              case h5c38 => exact fun _ _ _ h => h
              try simp only [Act.put, List.setIfInBounds_toArray, List.set_cons_zero, List.set_cons_succ]
              refine wpAnyH_take (i := 39) (oi := ?ooc39) (v := undef) ?hic39 (by kernel_rfl) ?h3c39 ?h4c39 ?h5c39 ?h6c39 (by assumption) ?h8c39
              case hic39 => (simp only [List.getElem?_toArray, List.getElem?_cons_succ, List.getElem?_cons_zero]; rfl)
              case h3c39 => kernel_rfl
              case h4c39 => kernel_rfl
              case h6c39 => exact Or.inr ⟨by rfl, rfl⟩
              case h5c39 => exact fun _ _ _ h => h
              try simp only [Act.put, List.setIfInBounds_toArray, List.set_cons_zero, List.set_cons_succ]
              refine wpAnyH_take (i := 40) (oi := ?ooc40) (v := undef) ?hic40 (by kernel_rfl) ?h3c40 ?h4c40 ?h5c40 ?h6c40 (by assumption) ?h8c40
              case hic40 => (simp only [List.getElem?_toArray, List.getElem?_cons_succ, List.getElem?_cons_zero]; rfl)
              case h3c40 => kernel_rfl
              case h4c40 => kernel_rfl
              case h6c40 => exact Or.inr ⟨by rfl, rfl⟩
              case h5c40 => exact fun _ _ _ h => h
              try simp only [Act.put, List.setIfInBounds_toArray, List.set_cons_zero, List.set_cons_succ]
              refine wpAnyH_take (i := 41) (oi := ?ooc41) (v := undef) ?hic41 (by kernel_rfl) ?h3c41 ?h4c41 ?h5c41 ?h6c41 (by assumption) ?h8c41
              case hic41 => (simp only [List.getElem?_toArray, List.getElem?_cons_succ, List.getElem?_cons_zero]; rfl)
              case h3c41 => kernel_rfl
              case h4c41 => kernel_rfl
              case h6c41 => exact Or.inr ⟨by rfl, rfl⟩
              case h5c41 => exact fun _ _ _ h => h
              try simp only [Act.put, List.setIfInBounds_toArray, List.set_cons_zero, List.set_cons_succ]
              refine wpAnyH_take (i := 42) (oi := ?ooc42) (v := ?vvc42) ?hic42 (by kernel_rfl) ?h3c42 ?h4c42 ?h5c42 ?h6c42 (by assumption) ?h8c42
              case hic42 => (simp only [List.getElem?_toArray, List.getElem?_cons_succ, List.getElem?_cons_zero]; rfl)
              case h3c42 => kernel_rfl
              case h4c42 => kernel_rfl
              case h6c42 => (refine Or.inl ⟨by rfl, ?_⟩; intro w hSw; (try dsimp only at hSw); (go_simp <;> with_reducible rfl))
              case h5c42 => exact fun _ _ _ h => h
              try simp only [Act.put, List.setIfInBounds_toArray, List.set_cons_zero, List.set_cons_succ]
              refine wpAnyH_done (by kernel_rfl) ?_ _
              go_wp2_with fail
              go_ret
              exact ⟨ret_bool HN.out.symm, bel_tr HB.out.drew hb⟩
            · have z0 : (n == 0) = false := by simpa using hz
              have HY : Hid (∀ j, j < k + 1 → okF hs j = true) := rng_more HF.out (by rw [HG.out, hv]; simpa using hz)
              clear hv hz
              cases k with
              | zero =>
                have HZ : Hid (∀ j, j < 0 + 1 → okA hs j = true) := rng_more HA.out (by rw [HO.out, ← HP.out]; show (decide ((0 : Int) < x) && decide (1 ≤ x) && decide (x ≤ 999)) = true; simp; omega)
                have i2 : (0 : Int) < (hs.length : Int) := by omega
                clear i0 i1
                simp only [Nat.zero_mul, Nat.add_zero] at c0 c1 c2
                go_wp2_with fail
                refine wp_region_held_drew (S := fun w' => w'.cell? ⟨g, off, none⟩ = some (.int .i64 x) ∧ w'.cell? ⟨g, off + 1, none⟩ = some (.int .i64 n) ∧ w'.cell? ⟨g, off + 2, none⟩ = some (.int .i64 d)) (by kernel_rfl) ?_ (fun hHeld => ?_)
                · exact ⟨c0, c1, c2⟩
                refine wpAnyH_take (i := 0) (oi := ?ood0) (v := ?vvd0) ?hid0 (by kernel_rfl) ?h3d0 ?h4d0 ?h5d0 ?h6d0 (by assumption) ?h8d0
                case hid0 => (simp only [List.getElem?_toArray, List.getElem?_cons_succ, List.getElem?_cons_zero]; rfl)
                case h3d0 => kernel_rfl
                case h4d0 => kernel_rfl
                case h6d0 => (refine Or.inl ⟨by rfl, ?_⟩; intro w hSw; (try dsimp only at hSw); (go_simp <;> with_reducible rfl))
                case h5d0 => exact fun _ _ _ h => h
                try simp only [Act.put, List.setIfInBounds_toArray, List.set_cons_zero, List.set_cons_succ]
                refine wpAnyH_take (i := 1) (oi := ?ood1) (v := ?vvd1) ?hid1 (by kernel_rfl) ?h3d1 ?h4d1 ?h5d1 ?h6d1 (by assumption) ?h8d1
                case hid1 => (simp only [List.getElem?_toArray, List.getElem?_cons_succ, List.getElem?_cons_zero]; rfl)
                case h3d1 => kernel_rfl
                case h4d1 => kernel_rfl
                case h6d1 => (refine Or.inl ⟨by rfl, ?_⟩; intro w hSw; (try dsimp only at hSw); (go_simp <;> with_reducible rfl))
                case h5d1 => exact fun _ _ _ h => h
                try simp only [Act.put, List.setIfInBounds_toArray, List.set_cons_zero, List.set_cons_succ]
                refine wpAnyH_take (i := 2) (oi := ?ood2) (v := ?vvd2) ?hid2 (by kernel_rfl) ?h3d2 ?h4d2 ?h5d2 ?h6d2 (by assumption) ?h8d2
                case hid2 => (simp only [List.getElem?_toArray, List.getElem?_cons_succ, List.getElem?_cons_zero]; rfl)
                case h3d2 => kernel_rfl
                case h4d2 => kernel_rfl
                case h6d2 => (refine Or.inl ⟨by rfl, ?_⟩; intro w hSw; (try dsimp only at hSw); (go_simp <;> with_reducible rfl))
                case h5d2 => exact fun _ _ _ h => h
                try simp only [Act.put, List.setIfInBounds_toArray, List.set_cons_zero, List.set_cons_succ]
                refine wpAnyH_take (i := 3) (oi := ?ood3) (v := ?vvd3) ?hid3 (by kernel_rfl) ?h3d3 ?h4d3 ?h5d3 ?h6d3 (by assumption) ?h8d3
                case hid3 => (simp only [List.getElem?_toArray, List.getElem?_cons_succ, List.getElem?_cons_zero]; rfl)
                case h3d3 => kernel_rfl
                case h4d3 => kernel_rfl
                case h6d3 => (refine Or.inl ⟨by rfl, ?_⟩; intro w hSw; (try dsimp only at hSw); (go_simp <;> with_reducible rfl))
                case h5d3 => exact fun _ _ _ h => h
                try simp only [Act.put, List.setIfInBounds_toArray, List.set_cons_zero, List.set_cons_succ]
                refine wpAnyH_take (i := 4) (oi := ?ood4) (v := ?vvd4) ?hid4 (by kernel_rfl) ?h3d4 ?h4d4 ?h5d4 ?h6d4 (by assumption) ?h8d4
                case hid4 => (simp only [List.getElem?_toArray, List.getElem?_cons_succ, List.getElem?_cons_zero]; rfl)
                case h3d4 => kernel_rfl
                case h4d4 => kernel_rfl
                case h6d4 => (refine Or.inl ⟨by rfl, ?_⟩; intro w hSw; (try dsimp only at hSw); (go_simp <;> with_reducible rfl))
                case h5d4 => exact fun _ _ _ h => h
                try simp only [Act.put, List.setIfInBounds_toArray, List.set_cons_zero, List.set_cons_succ]
                refine wpAnyH_ready (rs := [5]) (by kernel_rfl) (by simp) (AllReadyH.cons (o := ?ood5) ?hid5 (fun K hK => ?hkd5) AllReadyH.nil)
                rotate_left
                case hid5 => (simp only [List.getElem?_toArray, List.getElem?_cons_succ, List.getElem?_cons_zero]; rfl)
                (rw [if_pos (by rfl)]; go_simp; refine (inRange_yes x 1 999 _ h2.1 h2.2).mono ?_; rintro e w3 ⟨rfl, rfl⟩; go_wp2_with fail; refine hK.out _ _ (by assumption) (fun hHeld => ?_); clear hK K)
                try simp only [Act.put, List.setIfInBounds_toArray, List.set_cons_zero, List.set_cons_succ]
                refine wpAnyH_take (i := 6) (oi := ?ood6) (v := ?vvd6) ?hid6 (by kernel_rfl) ?h3d6 ?h4d6 ?h5d6 ?h6d6 (by assumption) ?h8d6
                case hid6 => (simp only [List.getElem?_toArray, List.getElem?_cons_succ, List.getElem?_cons_zero]; rfl)
                case h3d6 => kernel_rfl
                case h4d6 => kernel_rfl
                case h6d6 => (refine Or.inl ⟨by rfl, ?_⟩; intro w hSw; (try dsimp only at hSw); (go_simp <;> with_reducible rfl))
                case h5d6 => exact fun _ _ _ h => h
                try simp only [Act.put, List.setIfInBounds_toArray, List.set_cons_zero, List.set_cons_succ]
                refine wpAnyH_take (i := 7) (oi := ?ood7) (v := ?vvd7) ?hid7 (by kernel_rfl) ?h3d7 ?h4d7 ?h5d7 ?h6d7 (by assumption) ?h8d7
                case hid7 => (simp only [List.getElem?_toArray, List.getElem?_cons_succ, List.getElem?_cons_zero]; rfl)
                case h3d7 => kernel_rfl
                case h4d7 => kernel_rfl
                case h6d7 => (refine Or.inl ⟨by rfl, ?_⟩; intro w hSw; (try dsimp only at hSw); (go_simp <;> with_reducible rfl))
                case h5d7 => exact fun _ _ _ h => h
                try simp only [Act.put, List.setIfInBounds_toArray, List.set_cons_zero, List.set_cons_succ]
                refine wpAnyH_take (i := 8) (oi := ?ood8) (v := ?vvd8) ?hid8 (by kernel_rfl) ?h3d8 ?h4d8 ?h5d8 ?h6d8 (by assumption) ?h8d8
                case hid8 => (simp only [List.getElem?_toArray, List.getElem?_cons_succ, List.getElem?_cons_zero]; rfl)
                case h3d8 => kernel_rfl
                case h4d8 => kernel_rfl
                case h6d8 => (refine Or.inl ⟨by rfl, ?_⟩; intro w hSw; (try dsimp only at hSw); (go_simp <;> with_reducible rfl))
                case h5d8 => exact fun _ _ _ h => h
                try simp only [Act.put, List.setIfInBounds_toArray, List.set_cons_zero, List.set_cons_succ]
                refine wpAnyH_take (i := 9) (oi := ?ood9) (v := ?vvd9) ?hid9 (by kernel_rfl) ?h3d9 ?h4d9 ?h5d9 ?h6d9 (by assumption) ?h8d9
                case hid9 => (simp only [List.getElem?_toArray, List.getElem?_cons_succ, List.getElem?_cons_zero]; rfl)
                case h3d9 => kernel_rfl
                case h4d9 => kernel_rfl
                case h6d9 => (refine Or.inl ⟨by rfl, ?_⟩; intro w hSw; (try dsimp only at hSw); (go_simp <;> with_reducible rfl))
                case h5d9 => exact fun _ _ _ h => h
                try simp only [Act.put, List.setIfInBounds_toArray, List.set_cons_zero, List.set_cons_succ]
                refine wpAnyH_take (i := 10) (oi := ?ood10) (v := ?vvd10) ?hid10 (by kernel_rfl) ?h3d10 ?h4d10 ?h5d10 ?h6d10 (by assumption) ?h8d10
                case hid10 => (simp only [List.getElem?_toArray, List.getElem?_cons_succ, List.getElem?_cons_zero]; rfl)
                case h3d10 => kernel_rfl
                case h4d10 => kernel_rfl
                case h6d10 => (refine Or.inl ⟨by rfl, ?_⟩; intro w hSw; (try dsimp only at hSw); (go_simp <;> with_reducible rfl))
                case h5d10 => exact fun _ _ _ h => h
                try simp only [Act.put, List.setIfInBounds_toArray, List.set_cons_zero, List.set_cons_succ]
                refine wpAnyH_take (i := 11) (oi := ?ood11) (v := ?vvd11) ?hid11 (by kernel_rfl) ?h3d11 ?h4d11 ?h5d11 ?h6d11 (by assumption) ?h8d11
                case hid11 => (simp only [List.getElem?_toArray, List.getElem?_cons_succ, List.getElem?_cons_zero]; rfl)
                case h3d11 => kernel_rfl
                case h4d11 => kernel_rfl
                case h6d11 => (refine Or.inl ⟨by rfl, ?_⟩; intro w hSw; (try dsimp only at hSw); (go_simp <;> with_reducible rfl))
                case h5d11 => exact fun _ _ _ h => h
                try simp only [Act.put, List.setIfInBounds_toArray, List.set_cons_zero, List.set_cons_succ]
                refine wpAnyH_take (i := 12) (oi := ?ood12) (v := ?vvd12) ?hid12 (by kernel_rfl) ?h3d12 ?h4d12 ?h5d12 ?h6d12 (by assumption) ?h8d12
                case hid12 => (simp only [List.getElem?_toArray, List.getElem?_cons_succ, List.getElem?_cons_zero]; rfl)
                case h3d12 => kernel_rfl
                case h4d12 => kernel_rfl
                case h6d12 => (refine Or.inl ⟨by rfl, ?_⟩; intro w hSw; (try dsimp only at hSw); (go_simp <;> with_reducible rfl))
                case h5d12 => exact fun _ _ _ h => h
                try simp only [Act.put, List.setIfInBounds_toArray, List.set_cons_zero, List.set_cons_succ]
                refine wpAnyH_ready (rs := [13]) (by kernel_rfl) (by simp) (AllReadyH.cons (o := ?ood13) ?hid13 (fun K hK => ?hkd13) AllReadyH.nil)
                rotate_left
                case hid13 => (simp only [List.getElem?_toArray, List.getElem?_cons_succ, List.getElem?_cons_zero]; rfl)
                (rw [if_pos (by rfl)]; go_simp; refine (vf_boolY HV.out _).mono ?_; rintro e w3 ⟨rfl, hb⟩; go_wp2_with fail; refine hK.out _ _ (keep3 hb (by assumption)) (fun hHeld => ?_); clear hK K)
                try simp only [Act.put, List.setIfInBounds_toArray, List.set_cons_zero, List.set_cons_succ]
                refine wpAnyH_take (i := 14) (oi := ?ood14) (v := ?vvd14) ?hid14 (by kernel_rfl) ?h3d14 ?h4d14 ?h5d14 ?h6d14 (by assumption) ?h8d14
                case hid14 => (simp only [List.getElem?_toArray, List.getElem?_cons_succ, List.getElem?_cons_zero]; rfl)
                case h3d14 => kernel_rfl
                case h4d14 => kernel_rfl
                case h6d14 => (refine Or.inl ⟨by rfl, ?_⟩; intro w hSw; (try dsimp only at hSw); (go_simp <;> with_reducible rfl))
                case h5d14 => exact fun _ _ _ h => h
                try simp only [Act.put, List.setIfInBounds_toArray, List.set_cons_zero, List.set_cons_succ]
                refine wpAnyH_take (i := 15) (oi := ?ood15) (v := ?vvd15) ?hid15 (by kernel_rfl) ?h3d15 ?h4d15 ?h5d15 ?h6d15 (by assumption) ?h8d15
                case hid15 => (simp only [List.getElem?_toArray, List.getElem?_cons_succ, List.getElem?_cons_zero]; rfl)
                case h3d15 => kernel_rfl
                case h4d15 => kernel_rfl
                case h6d15 => (refine Or.inl ⟨by rfl, ?_⟩; intro w hSw; (try dsimp only at hSw); (go_simp <;> with_reducible rfl))
                case h5d15 => exact fun _ _ _ h => h
                try simp only [Act.put, List.setIfInBounds_toArray, List.set_cons_zero, List.set_cons_succ]
                refine wpAnyH_take (i := 16) (oi := ?ood16) (v := ?vvd16) ?hid16 (by kernel_rfl) ?h3d16 ?h4d16 ?h5d16 ?h6d16 (by assumption) ?h8d16
                case hid16 => (simp only [List.getElem?_toArray, List.getElem?_cons_succ, List.getElem?_cons_zero]; rfl)
                case h3d16 => kernel_rfl
                case h4d16 => kernel_rfl
                case h6d16 => (refine Or.inl ⟨by rfl, ?_⟩; intro w hSw; (try dsimp only at hSw); (go_simp <;> with_reducible rfl))
                case h5d16 => exact fun _ _ _ h => h
                try simp only [Act.put, List.setIfInBounds_toArray, List.set_cons_zero, List.set_cons_succ]
                refine wpAnyH_take (i := 17) (oi := ?ood17) (v := ?vvd17) ?hid17 (by kernel_rfl) ?h3d17 ?h4d17 ?h5d17 ?h6d17 (by assumption) ?h8d17
                case hid17 => (simp only [List.getElem?_toArray, List.getElem?_cons_succ, List.getElem?_cons_zero]; rfl)
                case h3d17 => kernel_rfl
                case h4d17 => kernel_rfl
                case h6d17 => (refine Or.inl ⟨by rfl, ?_⟩; intro w hSw; (try dsimp only at hSw); (go_simp <;> with_reducible rfl))
                case h5d17 => exact fun _ _ _ h => h
                try simp only [Act.put, List.setIfInBounds_toArray, List.set_cons_zero, List.set_cons_succ]
                refine wpAnyH_take (i := 18) (oi := ?ood18) (v := ?vvd18) ?hid18 (by kernel_rfl) ?h3d18 ?h4d18 ?h5d18 ?h6d18 (by assumption) ?h8d18
                case hid18 => (simp only [List.getElem?_toArray, List.getElem?_cons_succ, List.getElem?_cons_zero]; rfl)
                case h3d18 => kernel_rfl
                case h4d18 => kernel_rfl
                case h6d18 => (refine Or.inl ⟨by rfl, ?_⟩; intro w hSw; (try dsimp only at hSw); (go_simp <;> with_reducible rfl))
                case h5d18 => exact fun _ _ _ h => h
                try simp only [Act.put, List.setIfInBounds_toArray, List.set_cons_zero, List.set_cons_succ]
                refine wpAnyH_take (i := 19) (oi := ?ood19) (v := ?vvd19) ?hid19 (by kernel_rfl) ?h3d19 ?h4d19 ?h5d19 ?h6d19 (by assumption) ?h8d19
                case hid19 => (simp only [List.getElem?_toArray, List.getElem?_cons_succ, List.getElem?_cons_zero]; rfl)
                case h3d19 => kernel_rfl
                case h4d19 => kernel_rfl
                case h6d19 => (refine Or.inl ⟨by rfl, ?_⟩; intro w hSw; (try dsimp only at hSw); (go_simp <;> with_reducible rfl))
                case h5d19 => exact fun _ _ _ h => h
                try simp only [Act.put, List.setIfInBounds_toArray, List.set_cons_zero, List.set_cons_succ]
                refine wpAnyH_take (i := 20) (oi := ?ood20) (v := ?vvd20) ?hid20 (by kernel_rfl) ?h3d20 ?h4d20 ?h5d20 ?h6d20 (by assumption) ?h8d20
                case hid20 => (simp only [List.getElem?_toArray, List.getElem?_cons_succ, List.getElem?_cons_zero]; rfl)
                case h3d20 => kernel_rfl
                case h4d20 => kernel_rfl
                case h6d20 => (refine Or.inl ⟨by rfl, ?_⟩; intro w hSw; (try dsimp only at hSw); (go_simp <;> with_reducible rfl))
                case h5d20 => exact fun _ _ _ h => h
                try simp only [Act.put, List.setIfInBounds_toArray, List.set_cons_zero, List.set_cons_succ]
                refine wpAnyH_take (i := 21) (oi := ?ood21) (v := ?vvd21) ?hid21 (by kernel_rfl) ?h3d21 ?h4d21 ?h5d21 ?h6d21 (by assumption) ?h8d21
                case hid21 => (simp only [List.getElem?_toArray, List.getElem?_cons_succ, List.getElem?_cons_zero]; rfl)
                case h3d21 => kernel_rfl
                case h4d21 => kernel_rfl
                case h6d21 => (refine Or.inl ⟨by rfl, ?_⟩; intro w hSw; (try dsimp only at hSw); (go_simp <;> with_reducible rfl))
                case h5d21 => exact fun _ _ _ h => h
                try simp only [Act.put, List.setIfInBounds_toArray, List.set_cons_zero, List.set_cons_succ]
                refine wpAnyH_take (i := 22) (oi := ?ood22) (v := ?vvd22) ?hid22 (by kernel_rfl) ?h3d22 ?h4d22 ?h5d22 ?h6d22 (by assumption) ?h8d22
                case hid22 => (simp only [List.getElem?_toArray, List.getElem?_cons_succ, List.getElem?_cons_zero]; rfl)
                case h3d22 => kernel_rfl
                case h4d22 => kernel_rfl
                case h6d22 => (refine Or.inl ⟨by rfl, ?_⟩; intro w hSw; (try dsimp only at hSw); (go_simp <;> with_reducible rfl))
                case h5d22 => exact fun _ _ _ h => h
                try simp only [Act.put, List.setIfInBounds_toArray, List.set_cons_zero, List.set_cons_succ]
                refine wpAnyH_take (i := 23) (oi := ?ood23) (v := ?vvd23) ?hid23 (by kernel_rfl) ?h3d23 ?h4d23 ?h5d23 ?h6d23 (by assumption) ?h8d23
                case hid23 => (simp only [List.getElem?_toArray, List.getElem?_cons_succ, List.getElem?_cons_zero]; rfl)
                case h3d23 => kernel_rfl
                case h4d23 => kernel_rfl
                case h6d23 => (refine Or.inl ⟨by rfl, ?_⟩; intro w hSw; (try dsimp only at hSw); (go_simp <;> with_reducible rfl))
                case h5d23 => exact fun _ _ _ h => h
                try simp only [Act.put, List.setIfInBounds_toArray, List.set_cons_zero, List.set_cons_succ]
                refine wpAnyH_take (i := 24) (oi := ?ood24) (v := ?vvd24) ?hid24 (by kernel_rfl) ?h3d24 ?h4d24 ?h5d24 ?h6d24 (by assumption) ?h8d24
                case hid24 => (simp only [List.getElem?_toArray, List.getElem?_cons_succ, List.getElem?_cons_zero]; rfl)
                case h3d24 => kernel_rfl
                case h4d24 => kernel_rfl
                case h6d24 => (refine Or.inl ⟨by rfl, ?_⟩; intro w hSw; (try dsimp only at hSw); (go_simp <;> with_reducible rfl))
                case h5d24 => exact fun _ _ _ h => h
                try simp only [Act.put, List.setIfInBounds_toArray, List.set_cons_zero, List.set_cons_succ]
                refine wpAnyH_take (i := 25) (oi := ?ood25) (v := ?vvd25) ?hid25 (by kernel_rfl) ?h3d25 ?h4d25 ?h5d25 ?h6d25 (by assumption) ?h8d25
                case hid25 => (simp only [List.getElem?_toArray, List.getElem?_cons_succ, List.getElem?_cons_zero]; rfl)
                case h3d25 => kernel_rfl
                case h4d25 => kernel_rfl
                case h6d25 => (refine Or.inl ⟨by rfl, ?_⟩; intro w hSw; (try dsimp only at hSw); (go_simp <;> with_reducible rfl))
                case h5d25 => exact fun _ _ _ h => h
                try simp only [Act.put, List.setIfInBounds_toArray, List.set_cons_zero, List.set_cons_succ]
                refine wpAnyH_take (i := 26) (oi := ?ood26) (v := ?vvd26) ?hid26 (by kernel_rfl) ?h3d26 ?h4d26 ?h5d26 ?h6d26 (by assumption) ?h8d26
                case hid26 => (simp only [List.getElem?_toArray, List.getElem?_cons_succ, List.getElem?_cons_zero]; rfl)
                case h3d26 => kernel_rfl
                case h4d26 => kernel_rfl
                case h6d26 => (refine Or.inl ⟨by rfl, ?_⟩; intro w hSw; (try dsimp only at hSw); (go_simp <;> with_reducible rfl))
                case h5d26 => exact fun _ _ _ h => h
                try simp only [Act.put, List.setIfInBounds_toArray, List.set_cons_zero, List.set_cons_succ]
                refine wpAnyH_take (i := 27) (oi := ?ood27) (v := ?vvd27) ?hid27 (by kernel_rfl) ?h3d27 ?h4d27 ?h5d27 ?h6d27 (by assumption) ?h8d27
                case hid27 => (simp only [List.getElem?_toArray, List.getElem?_cons_succ, List.getElem?_cons_zero]; rfl)
                case h3d27 => kernel_rfl
                case h4d27 => kernel_rfl
                case h6d27 => (refine Or.inl ⟨by rfl, ?_⟩; intro w hSw; (try dsimp only at hSw); (go_simp <;> with_reducible rfl))
                case h5d27 => exact fun _ _ _ h => h
                try simp only [Act.put, List.setIfInBounds_toArray, List.set_cons_zero, List.set_cons_succ]
                refine wpAnyH_take (i := 28) (oi := ?ood28) (v := ?vvd28) ?hid28 (by kernel_rfl) ?h3d28 ?h4d28 ?h5d28 ?h6d28 (by assumption) ?h8d28
                case hid28 => (simp only [List.getElem?_toArray, List.getElem?_cons_succ, List.getElem?_cons_zero]; rfl)
                case h3d28 => kernel_rfl
                case h4d28 => kernel_rfl
                case h6d28 => (refine Or.inl ⟨by rfl, ?_⟩; intro w hSw; (try dsimp only at hSw); (go_simp <;> with_reducible rfl))
                case h5d28 => exact fun _ _ _ h => h
                try simp only [Act.put, List.setIfInBounds_toArray, List.set_cons_zero, List.set_cons_succ]
                refine wpAnyH_take (i := 29) (oi := ?ood29) (v := undef) ?hid29 (by kernel_rfl) ?h3d29 ?h4d29 ?h5d29 ?h6d29 (by assumption) ?h8d29
                case hid29 => (simp only [List.getElem?_toArray, List.getElem?_cons_succ, List.getElem?_cons_zero]; rfl)
                case h3d29 => kernel_rfl
                case h4d29 => kernel_rfl
                case h6d29 => exact Or.inr ⟨by rfl, rfl⟩
                case h5d29 => exact fun _ _ _ h => h
                try simp only [Act.put, List.setIfInBounds_toArray, List.set_cons_zero, List.set_cons_succ]
                refine wpAnyH_take (i := 30) (oi := ?ood30) (v := undef) ?hid30 (by kernel_rfl) ?h3d30 ?h4d30 ?h5d30 ?h6d30 (by assumption) ?h8d30
                case hid30 => (simp only [List.getElem?_toArray, List.getElem?_cons_succ, List.getElem?_cons_zero]; rfl)
                case h3d30 => kernel_rfl
                case h4d30 => kernel_rfl
                case h6d30 => exact Or.inr ⟨by rfl, rfl⟩
                case h5d30 => exact fun _ _ _ h => h
                try simp only [Act.put, List.setIfInBounds_toArray, List.set_cons_zero, List.set_cons_succ]
                refine wpAnyH_take (i := 31) (oi := ?ood31) (v := undef) ?hid31 (by kernel_rfl) ?h3d31 ?h4d31 ?h5d31 ?h6d31 (by assumption) ?h8d31
                case hid31 => (simp only [List.getElem?_toArray, List.getElem?_cons_succ, List.getElem?_cons_zero]; rfl)
                case h3d31 => kernel_rfl
                case h4d31 => kernel_rfl
                case h6d31 => exact Or.inr ⟨by rfl, rfl⟩
                case h5d31 => exact fun _ _ _ h => h
                try simp only [Act.put, List.setIfInBounds_toArray, List.set_cons_zero, List.set_cons_succ]
                refine wpAnyH_take (i := 32) (oi := ?ood32) (v := undef) ?hid32 (by kernel_rfl) ?h3d32 ?h4d32 ?h5d32 ?h6d32 (by assumption) ?h8d32
                case hid32 => (simp only [List.getElem?_toArray, List.getElem?_cons_succ, List.getElem?_cons_zero]; rfl)
                case h3d32 => kernel_rfl
                case h4d32 => kernel_rfl
                case h6d32 => exact Or.inr ⟨by rfl, rfl⟩
                case h5d32 => exact fun _ _ _ h => h
                try simp only [Act.put, List.setIfInBounds_toArray, List.set_cons_zero, List.set_cons_succ]
                refine wpAnyH_take (i := 33) (oi := ?ood33) (v := undef) ?hid33 (by kernel_rfl) ?h3d33 ?h4d33 ?h5d33 ?h6d33 (by assumption) ?h8d33
                case hid33 => (simp only [List.getElem?_toArray, List.getElem?_cons_succ, List.getElem?_cons_zero]; rfl)
                case h3d33 => kernel_rfl
                case h4d33 => kernel_rfl
                case h6d33 => exact Or.inr ⟨by rfl, rfl⟩
                case h5d33 => exact fun _ _ _ h => h
                try simp only [Act.put, List.setIfInBounds_toArray, List.set_cons_zero, List.set_cons_succ]
                refine wpAnyH_take (i := 34) (oi := ?ood34) (v := undef) ?hid34 (by kernel_rfl) ?h3d34 ?h4d34 ?h5d34 ?h6d34 (by assumption) ?h8d34
                case hid34 => (simp only [List.getElem?_toArray, List.getElem?_cons_succ, List.getElem?_cons_zero]; rfl)
                case h3d34 => kernel_rfl
                case h4d34 => kernel_rfl
                case h6d34 => exact Or.inr ⟨by rfl, rfl⟩
                case h5d34 => exact fun _ _ _ h => h
                try simp only [Act.put, List.setIfInBounds_toArray, List.set_cons_zero, List.set_cons_succ]
                refine wpAnyH_take (i := 35) (oi := ?ood35) (v := undef) ?hid35 (by kernel_rfl) ?h3d35 ?h4d35 ?h5d35 ?h6d35 (by assumption) ?h8d35
                case hid35 => (simp only [List.getElem?_toArray, List.getElem?_cons_succ, List.getElem?_cons_zero]; rfl)
                case h3d35 => kernel_rfl
                case h4d35 => kernel_rfl
                case h6d35 => exact Or.inr ⟨by rfl, rfl⟩
                case h5d35 => exact fun _ _ _ h => h
                try simp only [Act.put, List.setIfInBounds_toArray, List.set_cons_zero, List.set_cons_succ]
                refine wpAnyH_take (i := 36) (oi := ?ood36) (v := undef) ?hid36 (by kernel_rfl) ?h3d36 ?h4d36 ?h5d36 ?h6d36 (by assumption) ?h8d36
                case hid36 => (simp only [List.getElem?_toArray, List.getElem?_cons_succ, List.getElem?_cons_zero]; rfl)
                case h3d36 => kernel_rfl
                case h4d36 => kernel_rfl
                case h6d36 => exact Or.inr ⟨by rfl, rfl⟩
                case h5d36 => exact fun _ _ _ h => h
                try simp only [Act.put, List.setIfInBounds_toArray, List.set_cons_zero, List.set_cons_succ]
                refine wpAnyH_take (i := 37) (oi := ?ood37) (v := undef) ?hid37 (by kernel_rfl) ?h3d37 ?h4d37 ?h5d37 ?h6d37 (by assumption) ?h8d37
                case hid37 => (simp only [List.getElem?_toArray, List.getElem?_cons_succ, List.getElem?_cons_zero]; rfl)
                case h3d37 => kernel_rfl
                case h4d37 => kernel_rfl
                case h6d37 => exact Or.inr ⟨by rfl, rfl⟩
                case h5d37 => exact fun _ _ _ h => h
                try simp only [Act.put, List.setIfInBounds_toArray, List.set_cons_zero, List.set_cons_succ]
                refine wpAnyH_take (i := 38) (oi := ?ood38) (v := undef) ?hid38 (by kernel_rfl) ?h3d38 ?h4d38 ?h5d38 ?h6d38 (by assumption) ?h8d38
                case hid38 => (simp only [List.getElem?_toArray, List.getElem?_cons_succ, List.getElem?_cons_zero]; rfl)
                case h3d38 => kernel_rfl
                case h4d38 => kernel_rfl
                case h6d38 => exact Or.inr ⟨by rfl, rfl⟩
                case h5d38 => exact fun _ _ _ h => h
                try simp only [Act.put, List.setIfInBounds_toArray, List.set_cons_zero, List.set_cons_succ]
                refine wpAnyH_take (i := 39) (oi := ?ood39) (v := undef) ?hid39 (by kernel_rfl) ?h3d39 ?h4d39 ?h5d39 ?h6d39 (by assumption) ?h8d39
                case hid39 => (simp only [List.getElem?_toArray, List.getElem?_cons_succ, List.getElem?_cons_zero]; rfl)
                case h3d39 => kernel_rfl
                case h4d39 => kernel_rfl
                case h6d39 => exact Or.inr ⟨by rfl, rfl⟩
                case h5d39 => exact fun _ _ _ h => h
                try simp only [Act.put, List.setIfInBounds_toArray, List.set_cons_zero, List.set_cons_succ]
                refine wpAnyH_take (i := 40) (oi := ?ood40) (v := undef) ?hid40 (by kernel_rfl) ?h3d40 ?h4d40 ?h5d40 ?h6d40 (by assumption) ?h8d40
                case hid40 => (simp only [List.getElem?_toArray, List.getElem?_cons_succ, List.getElem?_cons_zero]; rfl)
                case h3d40 => kernel_rfl
                case h4d40 => kernel_rfl
                case h6d40 => exact Or.inr ⟨by rfl, rfl⟩
                case h5d40 => exact fun _ _ _ h => h
                try simp only [Act.put, List.setIfInBounds_toArray, List.set_cons_zero, List.set_cons_succ]
                refine wpAnyH_take (i := 41) (oi := ?ood41) (v := ?vvd41) ?hid41 (by kernel_rfl) ?h3d41 ?h4d41 ?h5d41 ?h6d41 (by assumption) ?h8d41
                case hid41 => (simp only [List.getElem?_toArray, List.getElem?_cons_succ, List.getElem?_cons_zero]; rfl)
                case h3d41 => kernel_rfl
                case h4d41 => kernel_rfl
                case h6d41 => (refine Or.inl ⟨by rfl, ?_⟩; intro w hSw; (try dsimp only at hSw); (go_simp <;> with_reducible rfl))
                case h5d41 => exact fun _ _ _ h => h
                try simp only [Act.put, List.setIfInBounds_toArray, List.set_cons_zero, List.set_cons_succ]
                refine wpAnyH_take (i := 42) (oi := ?ood42) (v := ?vvd42) ?hid42 (by kernel_rfl) ?h3d42 ?h4d42 ?h5d42 ?h6d42 (by assumption) ?h8d42
                case hid42 => (simp only [List.getElem?_toArray, List.getElem?_cons_succ, List.getElem?_cons_zero]; rfl)
                case h3d42 => kernel_rfl
                case h4d42 => kernel_rfl
                case h6d42 => (refine Or.inl ⟨by rfl, ?_⟩; intro w hSw; (try dsimp only at hSw); (go_simp <;> with_reducible rfl))
                case h5d42 => exact fun _ _ _ h => h
                try simp only [Act.put, List.setIfInBounds_toArray, List.set_cons_zero, List.set_cons_succ]
                refine wpAnyH_done (by kernel_rfl) ?_ _
                go_wp2_with fail
                go_roundw
                case rel => exact ⟨1, rfl, by omega, HZ.out, HY.out, bel_tr HB.out.drew hb⟩
                case measure => simp [intOf]; omega
              | succ m =>
                have c3 : wr.cell? ⟨g, off + m * 3, none⟩ = some (.int .i64 p) := HD.out (by omega)
                have i2 : (0 : Int) ≤ (m : Int) := by omega
                have i3 : (0 : Int) ≤ (m : Int) + 1 := by omega
                have i4 : ((m : Int) + 1).toNat = m + 1 := by omega
                have i5 : (0 : Int) < (m : Int) + 1 := by omega
                have i8 : (m : Int) + 1 < (hs.length : Int) := by omega
                have i9 : (m : Int) < (hs.length : Int) := by omega
                clear i0 i1
                by_cases hp : x ≤ p
                · have hp' : decide (x ≤ p) = true := by simpa using hp
                  have HN : Hid (vlR hs = false) := vl_noA hlt (by rw [HO.out, decide_eq_false (by omega : ¬ p < x)]; rfl)
                  have i6 : IntKind.i64.wrap ((m : Int) + 1 - 1) = (m : Int) := by rw [IntWalk.i64_in _ (by omega)]; omega
                  have i7 : IntKind.i64.wrap (m : Int) = (m : Int) := IntWalk.i64_in _ (by omega)
                  clear hp
                  go_wp2_with fail
                  refine wp_region_held_drew (S := fun w' => w'.cell? ⟨g, off + (m + 1) * 3, none⟩ = some (.int .i64 x) ∧ w'.cell? ⟨g, off + (m + 1) * 3 + 1, none⟩ = some (.int .i64 n) ∧ w'.cell? ⟨g, off + (m + 1) * 3 + 2, none⟩ = some (.int .i64 d) ∧ w'.cell? ⟨g, off + m * 3, none⟩ = some (.int .i64 p)) (by kernel_rfl) ?_ (fun hHeld => ?_)
                  · exact ⟨c0, c1, c2, c3⟩
                  refine wpAnyH_take (i := 0) (oi := ?ooe0) (v := ?vve0) ?hie0 (by kernel_rfl) ?h3e0 ?h4e0 ?h5e0 ?h6e0 (by assumption) ?h8e0
                  case hie0 => (simp only [List.getElem?_toArray, List.getElem?_cons_succ, List.getElem?_cons_zero]; rfl)
                  case h3e0 => kernel_rfl
                  case h4e0 => kernel_rfl
                  case h6e0 => (refine Or.inl ⟨by rfl, ?_⟩; intro w hSw; (try dsimp only at hSw); (go_simp <;> with_reducible rfl))
                  case h5e0 => exact fun _ _ _ h => h
                  try simp only [Act.put, List.setIfInBounds_toArray, List.set_cons_zero, List.set_cons_succ]
                  refine wpAnyH_take (i := 1) (oi := ?ooe1) (v := ?vve1) ?hie1 (by kernel_rfl) ?h3e1 ?h4e1 ?h5e1 ?h6e1 (by assumption) ?h8e1
                  case hie1 => (simp only [List.getElem?_toArray, List.getElem?_cons_succ, List.getElem?_cons_zero]; rfl)
                  case h3e1 => kernel_rfl
                  case h4e1 => kernel_rfl
                  case h6e1 => (refine Or.inl ⟨by rfl, ?_⟩; intro w hSw; (try dsimp only at hSw); (go_simp <;> with_reducible rfl))
                  case h5e1 => exact fun _ _ _ h => h
                  try simp only [Act.put, List.setIfInBounds_toArray, List.set_cons_zero, List.set_cons_succ]
                  refine wpAnyH_take (i := 2) (oi := ?ooe2) (v := ?vve2) ?hie2 (by kernel_rfl) ?h3e2 ?h4e2 ?h5e2 ?h6e2 (by assumption) ?h8e2
                  case hie2 => (simp only [List.getElem?_toArray, List.getElem?_cons_succ, List.getElem?_cons_zero]; rfl)
                  case h3e2 => kernel_rfl
                  case h4e2 => kernel_rfl
                  case h6e2 => (refine Or.inl ⟨by rfl, ?_⟩; intro w hSw; (try dsimp only at hSw); (go_simp <;> with_reducible rfl))
                  case h5e2 => exact fun _ _ _ h => h
                  try simp only [Act.put, List.setIfInBounds_toArray, List.set_cons_zero, List.set_cons_succ]
                  refine wpAnyH_take (i := 3) (oi := ?ooe3) (v := ?vve3) ?hie3 (by kernel_rfl) ?h3e3 ?h4e3 ?h5e3 ?h6e3 (by assumption) ?h8e3
                  case hie3 => (simp only [List.getElem?_toArray, List.getElem?_cons_succ, List.getElem?_cons_zero]; rfl)
                  case h3e3 => kernel_rfl
                  case h4e3 => kernel_rfl
                  case h6e3 => (refine Or.inl ⟨by rfl, ?_⟩; intro w hSw; (try dsimp only at hSw); (go_simp <;> with_reducible rfl))
                  case h5e3 => exact fun _ _ _ h => h
                  try simp only [Act.put, List.setIfInBounds_toArray, List.set_cons_zero, List.set_cons_succ]
                  refine wpAnyH_take (i := 4) (oi := ?ooe4) (v := ?vve4) ?hie4 (by kernel_rfl) ?h3e4 ?h4e4 ?h5e4 ?h6e4 (by assumption) ?h8e4
                  case hie4 => (simp only [List.getElem?_toArray, List.getElem?_cons_succ, List.getElem?_cons_zero]; rfl)
                  case h3e4 => kernel_rfl
                  case h4e4 => kernel_rfl
                  case h6e4 => (refine Or.inl ⟨by rfl, ?_⟩; intro w hSw; (try dsimp only at hSw); (go_simp <;> with_reducible rfl))
                  case h5e4 => exact fun _ _ _ h => h
                  try simp only [Act.put, List.setIfInBounds_toArray, List.set_cons_zero, List.set_cons_succ]
                  refine wpAnyH_ready (rs := [5]) (by kernel_rfl) (by simp) (AllReadyH.cons (o := ?ooe5) ?hie5 (fun K hK => ?hke5) AllReadyH.nil)
                  rotate_left
                  case hie5 => (simp only [List.getElem?_toArray, List.getElem?_cons_succ, List.getElem?_cons_zero]; rfl)
                  (rw [if_pos (by rfl)]; go_simp; refine (inRange_yes x 1 999 _ h2.1 h2.2).mono ?_; rintro e w3 ⟨rfl, rfl⟩; go_wp2_with fail; refine hK.out _ _ (by assumption) (fun hHeld => ?_); clear hK K)
                  try simp only [Act.put, List.setIfInBounds_toArray, List.set_cons_zero, List.set_cons_succ]
                  refine wpAnyH_take (i := 6) (oi := ?ooe6) (v := ?vve6) ?hie6 (by kernel_rfl) ?h3e6 ?h4e6 ?h5e6 ?h6e6 (by assumption) ?h8e6
                  case hie6 => (simp only [List.getElem?_toArray, List.getElem?_cons_succ, List.getElem?_cons_zero]; rfl)
                  case h3e6 => kernel_rfl
                  case h4e6 => kernel_rfl
                  case h6e6 => (refine Or.inl ⟨by rfl, ?_⟩; intro w hSw; (try dsimp only at hSw); (go_simp <;> with_reducible rfl))
                  case h5e6 => exact fun _ _ _ h => h
                  try simp only [Act.put, List.setIfInBounds_toArray, List.set_cons_zero, List.set_cons_succ]
                  refine wpAnyH_take (i := 7) (oi := ?ooe7) (v := ?vve7) ?hie7 (by kernel_rfl) ?h3e7 ?h4e7 ?h5e7 ?h6e7 (by assumption) ?h8e7
                  case hie7 => (simp only [List.getElem?_toArray, List.getElem?_cons_succ, List.getElem?_cons_zero]; rfl)
                  case h3e7 => kernel_rfl
                  case h4e7 => kernel_rfl
                  case h6e7 => (refine Or.inl ⟨by rfl, ?_⟩; intro w hSw; (try dsimp only at hSw); (go_simp <;> with_reducible rfl))
                  case h5e7 => exact fun _ _ _ h => h
                  try simp only [Act.put, List.setIfInBounds_toArray, List.set_cons_zero, List.set_cons_succ]
                  refine wpAnyH_take (i := 8) (oi := ?ooe8) (v := ?vve8) ?hie8 (by kernel_rfl) ?h3e8 ?h4e8 ?h5e8 ?h6e8 (by assumption) ?h8e8
                  case hie8 => (simp only [List.getElem?_toArray, List.getElem?_cons_succ, List.getElem?_cons_zero]; rfl)
                  case h3e8 => kernel_rfl
                  case h4e8 => kernel_rfl
                  case h6e8 => (refine Or.inl ⟨by rfl, ?_⟩; intro w hSw; (try dsimp only at hSw); (go_simp <;> with_reducible rfl))
                  case h5e8 => exact fun _ _ _ h => h
                  try simp only [Act.put, List.setIfInBounds_toArray, List.set_cons_zero, List.set_cons_succ]
                  refine wpAnyH_take (i := 9) (oi := ?ooe9) (v := ?vve9) ?hie9 (by kernel_rfl) ?h3e9 ?h4e9 ?h5e9 ?h6e9 (by assumption) ?h8e9
                  case hie9 => (simp only [List.getElem?_toArray, List.getElem?_cons_succ, List.getElem?_cons_zero]; rfl)
                  case h3e9 => kernel_rfl
                  case h4e9 => kernel_rfl
                  case h6e9 => (refine Or.inl ⟨by rfl, ?_⟩; intro w hSw; (try dsimp only at hSw); (go_simp <;> with_reducible rfl))
                  case h5e9 => exact fun _ _ _ h => h
                  try simp only [Act.put, List.setIfInBounds_toArray, List.set_cons_zero, List.set_cons_succ]
                  refine wpAnyH_take (i := 10) (oi := ?ooe10) (v := ?vve10) ?hie10 (by kernel_rfl) ?h3e10 ?h4e10 ?h5e10 ?h6e10 (by assumption) ?h8e10
                  case hie10 => (simp only [List.getElem?_toArray, List.getElem?_cons_succ, List.getElem?_cons_zero]; rfl)
                  case h3e10 => kernel_rfl
                  case h4e10 => kernel_rfl
                  case h6e10 => (refine Or.inl ⟨by rfl, ?_⟩; intro w hSw; (try dsimp only at hSw); (go_simp <;> with_reducible rfl))
                  case h5e10 => exact fun _ _ _ h => h
                  try simp only [Act.put, List.setIfInBounds_toArray, List.set_cons_zero, List.set_cons_succ]
                  refine wpAnyH_take (i := 11) (oi := ?ooe11) (v := ?vve11) ?hie11 (by kernel_rfl) ?h3e11 ?h4e11 ?h5e11 ?h6e11 (by assumption) ?h8e11
                  case hie11 => (simp only [List.getElem?_toArray, List.getElem?_cons_succ, List.getElem?_cons_zero]; rfl)
                  case h3e11 => kernel_rfl
                  case h4e11 => kernel_rfl
                  case h6e11 => (refine Or.inl ⟨by rfl, ?_⟩; intro w hSw; (try dsimp only at hSw); (go_simp <;> with_reducible rfl))
                  case h5e11 => exact fun _ _ _ h => h
                  try simp only [Act.put, List.setIfInBounds_toArray, List.set_cons_zero, List.set_cons_succ]
                  refine wpAnyH_take (i := 12) (oi := ?ooe12) (v := ?vve12) ?hie12 (by kernel_rfl) ?h3e12 ?h4e12 ?h5e12 ?h6e12 (by assumption) ?h8e12
                  case hie12 => (simp only [List.getElem?_toArray, List.getElem?_cons_succ, List.getElem?_cons_zero]; rfl)
                  case h3e12 => kernel_rfl
                  case h4e12 => kernel_rfl
                  case h6e12 => (refine Or.inl ⟨by rfl, ?_⟩; intro w hSw; (try dsimp only at hSw); (go_simp <;> with_reducible rfl))
                  case h5e12 => exact fun _ _ _ h => h
                  try simp only [Act.put, List.setIfInBounds_toArray, List.set_cons_zero, List.set_cons_succ]
                  refine wpAnyH_ready (rs := [13]) (by kernel_rfl) (by simp) (AllReadyH.cons (o := ?ooe13) ?hie13 (fun K hK => ?hke13) AllReadyH.nil)
                  rotate_left
                  case hie13 => (simp only [List.getElem?_toArray, List.getElem?_cons_succ, List.getElem?_cons_zero]; rfl)
                  (rw [if_pos (by rfl)]; go_simp; refine (vf_boolY HV.out _).mono ?_; rintro e w3 ⟨rfl, hb⟩; go_wp2_with fail; refine hK.out _ _ (keep4 hb (by assumption)) (fun hHeld => ?_); clear hK K)
                  try simp only [Act.put, List.setIfInBounds_toArray, List.set_cons_zero, List.set_cons_succ]
                  refine wpAnyH_take (i := 14) (oi := ?ooe14) (v := ?vve14) ?hie14 (by kernel_rfl) ?h3e14 ?h4e14 ?h5e14 ?h6e14 (by assumption) ?h8e14
                  case hie14 => (simp only [List.getElem?_toArray, List.getElem?_cons_succ, List.getElem?_cons_zero]; rfl)
                  case h3e14 => kernel_rfl
                  case h4e14 => kernel_rfl
                  case h6e14 => (refine Or.inl ⟨by rfl, ?_⟩; intro w hSw; (try dsimp only at hSw); (go_simp <;> with_reducible rfl))
                  case h5e14 => exact fun _ _ _ h => h
                  try simp only [Act.put, List.setIfInBounds_toArray, List.set_cons_zero, List.set_cons_succ]
                  refine wpAnyH_take (i := 15) (oi := ?ooe15) (v := ?vve15) ?hie15 (by kernel_rfl) ?h3e15 ?h4e15 ?h5e15 ?h6e15 (by assumption) ?h8e15
                  case hie15 => (simp only [List.getElem?_toArray, List.getElem?_cons_succ, List.getElem?_cons_zero]; rfl)
                  case h3e15 => kernel_rfl
                  case h4e15 => kernel_rfl
                  case h6e15 => (refine Or.inl ⟨by rfl, ?_⟩; intro w hSw; (try dsimp only at hSw); (go_simp <;> with_reducible rfl))
                  case h5e15 => exact fun _ _ _ h => h
                  try simp only [Act.put, List.setIfInBounds_toArray, List.set_cons_zero, List.set_cons_succ]
                  refine wpAnyH_take (i := 16) (oi := ?ooe16) (v := ?vve16) ?hie16 (by kernel_rfl) ?h3e16 ?h4e16 ?h5e16 ?h6e16 (by assumption) ?h8e16
                  case hie16 => (simp only [List.getElem?_toArray, List.getElem?_cons_succ, List.getElem?_cons_zero]; rfl)
                  case h3e16 => kernel_rfl
                  case h4e16 => kernel_rfl
                  case h6e16 => (refine Or.inl ⟨by rfl, ?_⟩; intro w hSw; (try dsimp only at hSw); (go_simp <;> with_reducible rfl))
                  case h5e16 => exact fun _ _ _ h => h
                  try simp only [Act.put, List.setIfInBounds_toArray, List.set_cons_zero, List.set_cons_succ]
                  refine wpAnyH_take (i := 17) (oi := ?ooe17) (v := ?vve17) ?hie17 (by kernel_rfl) ?h3e17 ?h4e17 ?h5e17 ?h6e17 (by assumption) ?h8e17
                  case hie17 => (simp only [List.getElem?_toArray, List.getElem?_cons_succ, List.getElem?_cons_zero]; rfl)
                  case h3e17 => kernel_rfl
                  case h4e17 => kernel_rfl
                  case h6e17 => (refine Or.inl ⟨by rfl, ?_⟩; intro w hSw; (try dsimp only at hSw); (go_simp <;> with_reducible rfl))
                  case h5e17 => exact fun _ _ _ h => h
                  try simp only [Act.put, List.setIfInBounds_toArray, List.set_cons_zero, List.set_cons_succ]
                  refine wpAnyH_take (i := 18) (oi := ?ooe18) (v := ?vve18) ?hie18 (by kernel_rfl) ?h3e18 ?h4e18 ?h5e18 ?h6e18 (by assumption) ?h8e18
                  case hie18 => (simp only [List.getElem?_toArray, List.getElem?_cons_succ, List.getElem?_cons_zero]; rfl)
                  case h3e18 => kernel_rfl
                  case h4e18 => kernel_rfl
                  case h6e18 => (refine Or.inl ⟨by rfl, ?_⟩; intro w hSw; (try dsimp only at hSw); (go_simp <;> with_reducible rfl))
                  case h5e18 => exact fun _ _ _ h => h
                  try simp only [Act.put, List.setIfInBounds_toArray, List.set_cons_zero, List.set_cons_succ]
                  refine wpAnyH_take (i := 19) (oi := ?ooe19) (v := ?vve19) ?hie19 (by kernel_rfl) ?h3e19 ?h4e19 ?h5e19 ?h6e19 (by assumption) ?h8e19
                  case hie19 => (simp only [List.getElem?_toArray, List.getElem?_cons_succ, List.getElem?_cons_zero]; rfl)
                  case h3e19 => kernel_rfl
                  case h4e19 => kernel_rfl
                  case h6e19 => (refine Or.inl ⟨by rfl, ?_⟩; intro w hSw; (try dsimp only at hSw); (go_simp <;> with_reducible rfl))
                  case h5e19 => exact fun _ _ _ h => h
                  try simp only [Act.put, List.setIfInBounds_toArray, List.set_cons_zero, List.set_cons_succ]
                  refine wpAnyH_take (i := 20) (oi := ?ooe20) (v := ?vve20) ?hie20 (by kernel_rfl) ?h3e20 ?h4e20 ?h5e20 ?h6e20 (by assumption) ?h8e20
                  case hie20 => (simp only [List.getElem?_toArray, List.getElem?_cons_succ, List.getElem?_cons_zero]; rfl)
                  case h3e20 => kernel_rfl
                  case h4e20 => kernel_rfl
                  case h6e20 => (refine Or.inl ⟨by rfl, ?_⟩; intro w hSw; (try dsimp only at hSw); (go_simp <;> with_reducible rfl))
                  case h5e20 => exact fun _ _ _ h => h
                  try simp only [Act.put, List.setIfInBounds_toArray, List.set_cons_zero, List.set_cons_succ]
                  refine wpAnyH_take (i := 21) (oi := ?ooe21) (v := ?vve21) ?hie21 (by kernel_rfl) ?h3e21 ?h4e21 ?h5e21 ?h6e21 (by assumption) ?h8e21
                  case hie21 => (simp only [List.getElem?_toArray, List.getElem?_cons_succ, List.getElem?_cons_zero]; rfl)
                  case h3e21 => kernel_rfl
                  case h4e21 => kernel_rfl
                  case h6e21 => (refine Or.inl ⟨by rfl, ?_⟩; intro w hSw; (try dsimp only at hSw); (go_simp <;> with_reducible rfl))
                  case h5e21 => exact fun _ _ _ h => h
                  try simp only [Act.put, List.setIfInBounds_toArray, List.set_cons_zero, List.set_cons_succ]
                  refine wpAnyH_take (i := 22) (oi := ?ooe22) (v := ?vve22) ?hie22 (by kernel_rfl) ?h3e22 ?h4e22 ?h5e22 ?h6e22 (by assumption) ?h8e22
                  case hie22 => (simp only [List.getElem?_toArray, List.getElem?_cons_succ, List.getElem?_cons_zero]; rfl)
                  case h3e22 => kernel_rfl
                  case h4e22 => kernel_rfl
                  case h6e22 => (refine Or.inl ⟨by rfl, ?_⟩; intro w hSw; (try dsimp only at hSw); (go_simp <;> with_reducible rfl))
                  case h5e22 => exact fun _ _ _ h => h
                  try simp only [Act.put, List.setIfInBounds_toArray, List.set_cons_zero, List.set_cons_succ]
                  refine wpAnyH_take (i := 23) (oi := ?ooe23) (v := ?vve23) ?hie23 (by kernel_rfl) ?h3e23 ?h4e23 ?h5e23 ?h6e23 (by assumption) ?h8e23
                  case hie23 => (simp only [List.getElem?_toArray, List.getElem?_cons_succ, List.getElem?_cons_zero]; rfl)
                  case h3e23 => kernel_rfl
                  case h4e23 => kernel_rfl
                  case h6e23 => (refine Or.inl ⟨by rfl, ?_⟩; intro w hSw; (try dsimp only at hSw); (go_simp <;> with_reducible rfl))
                  case h5e23 => exact fun _ _ _ h => h
                  try simp only [Act.put, List.setIfInBounds_toArray, List.set_cons_zero, List.set_cons_succ]
                  refine wpAnyH_take (i := 24) (oi := ?ooe24) (v := ?vve24) ?hie24 (by kernel_rfl) ?h3e24 ?h4e24 ?h5e24 ?h6e24 (by assumption) ?h8e24
                  case hie24 => (simp only [List.getElem?_toArray, List.getElem?_cons_succ, List.getElem?_cons_zero]; rfl)
                  case h3e24 => kernel_rfl
                  case h4e24 => kernel_rfl
                  case h6e24 => (refine Or.inl ⟨by rfl, ?_⟩; intro w hSw; (try dsimp only at hSw); (go_simp <;> with_reducible rfl))
                  case h5e24 => exact fun _ _ _ h => h
                  try simp only [Act.put, List.setIfInBounds_toArray, List.set_cons_zero, List.set_cons_succ]
                  refine wpAnyH_take (i := 25) (oi := ?ooe25) (v := ?vve25) ?hie25 (by kernel_rfl) ?h3e25 ?h4e25 ?h5e25 ?h6e25 (by assumption) ?h8e25
                  case hie25 => (simp only [List.getElem?_toArray, List.getElem?_cons_succ, List.getElem?_cons_zero]; rfl)
                  case h3e25 => kernel_rfl
                  case h4e25 => kernel_rfl
                  case h6e25 => (refine Or.inl ⟨by rfl, ?_⟩; intro w hSw; (try dsimp only at hSw); (go_simp <;> with_reducible rfl))
                  case h5e25 => exact fun _ _ _ h => h
                  try simp only [Act.put, List.setIfInBounds_toArray, List.set_cons_zero, List.set_cons_succ]
                  refine wpAnyH_take (i := 26) (oi := ?ooe26) (v := ?vve26) ?hie26 (by kernel_rfl) ?h3e26 ?h4e26 ?h5e26 ?h6e26 (by assumption) ?h8e26
                  case hie26 => (simp only [List.getElem?_toArray, List.getElem?_cons_succ, List.getElem?_cons_zero]; rfl)
                  case h3e26 => kernel_rfl
                  case h4e26 => kernel_rfl
                  case h6e26 => (refine Or.inl ⟨by rfl, ?_⟩; intro w hSw; (try dsimp only at hSw); (go_simp <;> with_reducible rfl))
                  case h5e26 => exact fun _ _ _ h => h
                  try simp only [Act.put, List.setIfInBounds_toArray, List.set_cons_zero, List.set_cons_succ]
                  refine wpAnyH_take (i := 27) (oi := ?ooe27) (v := ?vve27) ?hie27 (by kernel_rfl) ?h3e27 ?h4e27 ?h5e27 ?h6e27 (by assumption) ?h8e27
                  case hie27 => (simp only [List.getElem?_toArray, List.getElem?_cons_succ, List.getElem?_cons_zero]; rfl)
                  case h3e27 => kernel_rfl
                  case h4e27 => kernel_rfl
                  case h6e27 => (refine Or.inl ⟨by rfl, ?_⟩; intro w hSw; (try dsimp only at hSw); (go_simp <;> with_reducible rfl))
                  case h5e27 => exact fun _ _ _ h => h
                  try simp only [Act.put, List.setIfInBounds_toArray, List.set_cons_zero, List.set_cons_succ]
                  refine wpAnyH_take (i := 28) (oi := ?ooe28) (v := ?vve28) ?hie28 (by kernel_rfl) ?h3e28 ?h4e28 ?h5e28 ?h6e28 (by assumption) ?h8e28
                  case hie28 => (simp only [List.getElem?_toArray, List.getElem?_cons_succ, List.getElem?_cons_zero]; rfl)
                  case h3e28 => kernel_rfl
                  case h4e28 => kernel_rfl
                  case h6e28 => (refine Or.inl ⟨by rfl, ?_⟩; intro w hSw; (try dsimp only at hSw); (go_simp <;> with_reducible rfl))
                  case h5e28 => exact fun _ _ _ h => h
                  try simp only [Act.put, List.setIfInBounds_toArray, List.set_cons_zero, List.set_cons_succ]
                  refine wpAnyH_take (i := 29) (oi := ?ooe29) (v := ?vve29) ?hie29 (by kernel_rfl) ?h3e29 ?h4e29 ?h5e29 ?h6e29 (by assumption) ?h8e29
                  case hie29 => (simp only [List.getElem?_toArray, List.getElem?_cons_succ, List.getElem?_cons_zero]; rfl)
                  case h3e29 => kernel_rfl
                  case h4e29 => kernel_rfl
                  case h6e29 => (refine Or.inl ⟨by rfl, ?_⟩; intro w hSw; (try dsimp only at hSw); (go_simp <;> with_reducible rfl))
                  case h5e29 => exact fun _ _ _ h => h
                  try simp only [Act.put, List.setIfInBounds_toArray, List.set_cons_zero, List.set_cons_succ]
                  refine wpAnyH_take (i := 30) (oi := ?ooe30) (v := ?vve30) ?hie30 (by kernel_rfl) ?h3e30 ?h4e30 ?h5e30 ?h6e30 (by assumption) ?h8e30
                  case hie30 => (simp only [List.getElem?_toArray, List.getElem?_cons_succ, List.getElem?_cons_zero]; rfl)
                  case h3e30 => kernel_rfl
                  case h4e30 => kernel_rfl
                  case h6e30 => (refine Or.inl ⟨by rfl, ?_⟩; intro w hSw; (try dsimp only at hSw); (go_simp <;> with_reducible rfl))
                  case h5e30 => exact fun _ _ _ h => h
                  try simp only [Act.put, List.setIfInBounds_toArray, List.set_cons_zero, List.set_cons_succ]
                  refine wpAnyH_take (i := 31) (oi := ?ooe31) (v := ?vve31) ?hie31 (by kernel_rfl) ?h3e31 ?h4e31 ?h5e31 ?h6e31 (by assumption) ?h8e31
                  case hie31 => (simp only [List.getElem?_toArray, List.getElem?_cons_succ, List.getElem?_cons_zero]; rfl)
                  case h3e31 => kernel_rfl
                  case h4e31 => kernel_rfl
                  case h6e31 => (refine Or.inl ⟨by rfl, ?_⟩; intro w hSw; (try dsimp only at hSw); (go_simp <;> with_reducible rfl))
                  case h5e31 => exact fun _ _ _ h => h
                  try simp only [Act.put, List.setIfInBounds_toArray, List.set_cons_zero, List.set_cons_succ]
                  refine wpAnyH_take (i := 32) (oi := ?ooe32) (v := ?vve32) ?hie32 (by kernel_rfl) ?h3e32 ?h4e32 ?h5e32 ?h6e32 (by assumption) ?h8e32
                  case hie32 => (simp only [List.getElem?_toArray, List.getElem?_cons_succ, List.getElem?_cons_zero]; rfl)
                  case h3e32 => kernel_rfl
                  case h4e32 => kernel_rfl
                  case h6e32 => (refine Or.inl ⟨by rfl, ?_⟩; intro w hSw; (try dsimp only at hSw); (go_simp <;> with_reducible rfl))
                  case h5e32 => exact fun _ _ _ h => h
                  try simp only [Act.put, List.setIfInBounds_toArray, List.set_cons_zero, List.set_cons_succ]
                  refine wpAnyH_take (i := 33) (oi := ?ooe33) (v := ?vve33) ?hie33 (by kernel_rfl) ?h3e33 ?h4e33 ?h5e33 ?h6e33 (by assumption) ?h8e33
                  case hie33 => (simp only [List.getElem?_toArray, List.getElem?_cons_succ, List.getElem?_cons_zero]; rfl)
                  case h3e33 => kernel_rfl
                  case h4e33 => kernel_rfl
                  case h6e33 => (refine Or.inl ⟨by rfl, ?_⟩; intro w hSw; (try dsimp only at hSw); (go_simp <;> with_reducible rfl))
                  case h5e33 => exact fun _ _ _ h => h
                  try simp only [Act.put, List.setIfInBounds_toArray, List.set_cons_zero, List.set_cons_succ]
                  refine wpAnyH_take (i := 34) (oi := ?ooe34) (v := ?vve34) ?hie34 (by kernel_rfl) ?h3e34 ?h4e34 ?h5e34 ?h6e34 (by assumption) ?h8e34
                  case hie34 => (simp only [List.getElem?_toArray, List.getElem?_cons_succ, List.getElem?_cons_zero]; rfl)
                  case h3e34 => kernel_rfl
                  case h4e34 => kernel_rfl
                  case h6e34 => (refine Or.inl ⟨by rfl, ?_⟩; intro w hSw; (try dsimp only at hSw); (go_simp <;> with_reducible rfl))
                  case h5e34 => exact fun _ _ _ h => h
                  try simp only [Act.put, List.setIfInBounds_toArray, List.set_cons_zero, List.set_cons_succ]
                  refine wpAnyH_take (i := 35) (oi := ?ooe35) (v := ?vve35) ?hie35 (by kernel_rfl) ?h3e35 ?h4e35 ?h5e35 ?h6e35 (by assumption) ?h8e35
                  case hie35 => (simp only [List.getElem?_toArray, List.getElem?_cons_succ, List.getElem?_cons_zero]; rfl)
                  case h3e35 => kernel_rfl
                  case h4e35 => kernel_rfl
                  case h6e35 => (refine Or.inl ⟨by rfl, ?_⟩; intro w hSw; (try dsimp only at hSw); (go_simp <;> with_reducible rfl))
                  case h5e35 => exact fun _ _ _ h => h
                  try simp only [Act.put, List.setIfInBounds_toArray, List.set_cons_zero, List.set_cons_succ]
                  refine wpAnyH_take (i := 36) (oi := ?ooe36) (v := ?vve36) ?hie36 (by kernel_rfl) ?h3e36 ?h4e36 ?h5e36 ?h6e36 (by assumption) ?h8e36
                  case hie36 => (simp only [List.getElem?_toArray, List.getElem?_cons_succ, List.getElem?_cons_zero]; rfl)
                  case h3e36 => kernel_rfl
                  case h4e36 => kernel_rfl
                  case h6e36 => (refine Or.inl ⟨by rfl, ?_⟩; intro w hSw; (try dsimp only at hSw); (go_simp <;> with_reducible rfl))
                  case h5e36 => exact fun _ _ _ h => h
                  try simp only [Act.put, List.setIfInBounds_toArray, List.set_cons_zero, List.set_cons_succ]
                  refine wpAnyH_take (i := 37) (oi := ?ooe37) (v := ?vve37) ?hie37 (by kernel_rfl) ?h3e37 ?h4e37 ?h5e37 ?h6e37 (by assumption) ?h8e37
                  case hie37 => (simp only [List.getElem?_toArray, List.getElem?_cons_succ, List.getElem?_cons_zero]; rfl)
                  case h3e37 => kernel_rfl
                  case h4e37 => kernel_rfl
                  case h6e37 => (refine Or.inl ⟨by rfl, ?_⟩; intro w hSw; (try dsimp only at hSw); (go_simp <;> with_reducible rfl))
                  case h5e37 => exact fun _ _ _ h => h
                  try simp only [Act.put, List.setIfInBounds_toArray, List.set_cons_zero, List.set_cons_succ]
                  refine wpAnyH_take (i := 38) (oi := ?ooe38) (v := ?vve38) ?hie38 (by kernel_rfl) ?h3e38 ?h4e38 ?h5e38 ?h6e38 (by assumption) ?h8e38
                  case hie38 => (simp only [List.getElem?_toArray, List.getElem?_cons_succ, List.getElem?_cons_zero]; rfl)
                  case h3e38 => kernel_rfl
                  case h4e38 => kernel_rfl
                  case h6e38 => (refine Or.inl ⟨by rfl, ?_⟩; intro w hSw; (try dsimp only at hSw); (go_simp <;> with_reducible rfl))
                  case h5e38 => exact fun _ _ _ h => h
                  try simp only [Act.put, List.setIfInBounds_toArray, List.set_cons_zero, List.set_cons_succ]
                  refine wpAnyH_take (i := 39) (oi := ?ooe39) (v := ?vve39) ?hie39 (by kernel_rfl) ?h3e39 ?h4e39 ?h5e39 ?h6e39 (by assumption) ?h8e39
                  case hie39 => (simp only [List.getElem?_toArray, List.getElem?_cons_succ, List.getElem?_cons_zero]; rfl)
                  case h3e39 => kernel_rfl
                  case h4e39 => kernel_rfl
                  case h6e39 => (refine Or.inl ⟨by rfl, ?_⟩; intro w hSw; (try dsimp only at hSw); (go_simp <;> with_reducible rfl))
                  case h5e39 => exact fun _ _ _ h => h
                  try simp only [Act.put, List.setIfInBounds_toArray, List.set_cons_zero, List.set_cons_succ]
                  refine wpAnyH_take (i := 40) (oi := ?ooe40) (v := ?vve40) ?hie40 (by kernel_rfl) ?h3e40 ?h4e40 ?h5e40 ?h6e40 (by assumption) ?h8e40
                  case hie40 => (simp only [List.getElem?_toArray, List.getElem?_cons_succ, List.getElem?_cons_zero]; rfl)
                  case h3e40 => kernel_rfl
                  case h4e40 => kernel_rfl
                  case h6e40 => (refine Or.inl ⟨by rfl, ?_⟩; intro w hSw; (try dsimp only at hSw); (go_simp <;> with_reducible rfl))
                  case h5e40 => exact fun _ _ _ h => h
                  try simp only [Act.put, List.setIfInBounds_toArray, List.set_cons_zero, List.set_cons_succ]
                  refine wpAnyH_take (i := 41) (oi := ?ooe41) (v := ?vve41) ?hie41 (by kernel_rfl) ?h3e41 ?h4e41 ?h5e41 ?h6e41 (by assumption) ?h8e41
                  case hie41 => (simp only [List.getElem?_toArray, List.getElem?_cons_succ, List.getElem?_cons_zero]; rfl)
                  case h3e41 => kernel_rfl
                  case h4e41 => kernel_rfl
                  case h6e41 => (refine Or.inl ⟨by rfl, ?_⟩; intro w hSw; (try dsimp only at hSw); (go_simp <;> with_reducible rfl))
                  case h5e41 => exact fun _ _ _ h => h
                  try simp only [Act.put, List.setIfInBounds_toArray, List.set_cons_zero, List.set_cons_succ]
                  refine wpAnyH_take (i := 42) (oi := ?ooe42) (v := ?vve42) ?hie42 (by kernel_rfl) ?h3e42 ?h4e42 ?h5e42 ?h6e42 (by assumption) ?h8e42
                  case hie42 => (simp only [List.getElem?_toArray, List.getElem?_cons_succ, List.getElem?_cons_zero]; rfl)
                  case h3e42 => kernel_rfl
                  case h4e42 => kernel_rfl
                  case h6e42 => (refine Or.inl ⟨by rfl, ?_⟩; intro w hSw; (try dsimp only at hSw); (go_simp <;> with_reducible rfl))
                  case h5e42 => exact fun _ _ _ h => h
                  try simp only [Act.put, List.setIfInBounds_toArray, List.set_cons_zero, List.set_cons_succ]
                  refine wpAnyH_done (by kernel_rfl) ?_ _
                  go_wp2_with fail
                  go_ret
                  exact ⟨ret_bool HN.out.symm, bel_tr HB.out.drew hb⟩
                · have hp' : decide (x ≤ p) = false := by simpa using hp
                  have HZ : Hid (∀ j, j < m + 1 + 1 → okA hs j = true) := rng_more HA.out (by rw [HO.out]; simp; omega)
                  have i6 : IntKind.i64.wrap ((m : Int) + 1 - 1) = (m : Int) := by rw [IntWalk.i64_in _ (by omega)]; omega
                  have i7 : IntKind.i64.wrap (m : Int) = (m : Int) := IntWalk.i64_in _ (by omega)
                  clear hp
                  go_wp2_with fail
                  refine wp_region_held_drew (S := fun w' => w'.cell? ⟨g, off + (m + 1) * 3, none⟩ = some (.int .i64 x) ∧ w'.cell? ⟨g, off + (m + 1) * 3 + 1, none⟩ = some (.int .i64 n) ∧ w'.cell? ⟨g, off + (m + 1) * 3 + 2, none⟩ = some (.int .i64 d) ∧ w'.cell? ⟨g, off + m * 3, none⟩ = some (.int .i64 p)) (by kernel_rfl) ?_ (fun hHeld => ?_)
                  · exact ⟨c0, c1, c2, c3⟩
                  refine wpAnyH_take (i := 0) (oi := ?oof0) (v := ?vvf0) ?hif0 (by kernel_rfl) ?h3f0 ?h4f0 ?h5f0 ?h6f0 (by assumption) ?h8f0
                  case hif0 => (simp only [List.getElem?_toArray, List.getElem?_cons_succ, List.getElem?_cons_zero]; rfl)
                  case h3f0 => kernel_rfl
                  case h4f0 => kernel_rfl
                  case h6f0 => (refine Or.inl ⟨by rfl, ?_⟩; intro w hSw; (try dsimp only at hSw); (go_simp <;> with_reducible rfl))
                  case h5f0 => exact fun _ _ _ h => h
                  try simp only [Act.put, List.setIfInBounds_toArray, List.set_cons_zero, List.set_cons_succ]
                  refine wpAnyH_take (i := 1) (oi := ?oof1) (v := ?vvf1) ?hif1 (by kernel_rfl) ?h3f1 ?h4f1 ?h5f1 ?h6f1 (by assumption) ?h8f1
                  case hif1 => (simp only [List.getElem?_toArray, List.getElem?_cons_succ, List.getElem?_cons_zero]; rfl)
                  case h3f1 => kernel_rfl
                  case h4f1 => kernel_rfl
                  case h6f1 => (refine Or.inl ⟨by rfl, ?_⟩; intro w hSw; (try dsimp only at hSw); (go_simp <;> with_reducible rfl))
                  case h5f1 => exact fun _ _ _ h => h
                  try simp only [Act.put, List.setIfInBounds_toArray, List.set_cons_zero, List.set_cons_succ]
                  refine wpAnyH_take (i := 2) (oi := ?oof2) (v := ?vvf2) ?hif2 (by kernel_rfl) ?h3f2 ?h4f2 ?h5f2 ?h6f2 (by assumption) ?h8f2
                  case hif2 => (simp only [List.getElem?_toArray, List.getElem?_cons_succ, List.getElem?_cons_zero]; rfl)
                  case h3f2 => kernel_rfl
                  case h4f2 => kernel_rfl
                  case h6f2 => (refine Or.inl ⟨by rfl, ?_⟩; intro w hSw; (try dsimp only at hSw); (go_simp <;> with_reducible rfl))
                  case h5f2 => exact fun _ _ _ h => h
                  try simp only [Act.put, List.setIfInBounds_toArray, List.set_cons_zero, List.set_cons_succ]
                  refine wpAnyH_take (i := 3) (oi := ?oof3) (v := ?vvf3) ?hif3 (by kernel_rfl) ?h3f3 ?h4f3 ?h5f3 ?h6f3 (by assumption) ?h8f3
                  case hif3 => (simp only [List.getElem?_toArray, List.getElem?_cons_succ, List.getElem?_cons_zero]; rfl)
                  case h3f3 => kernel_rfl
                  case h4f3 => kernel_rfl
                  case h6f3 => (refine Or.inl ⟨by rfl, ?_⟩; intro w hSw; (try dsimp only at hSw); (go_simp <;> with_reducible rfl))
                  case h5f3 => exact fun _ _ _ h => h
                  try simp only [Act.put, List.setIfInBounds_toArray, List.set_cons_zero, List.set_cons_succ]
                  refine wpAnyH_take (i := 4) (oi := ?oof4) (v := ?vvf4) ?hif4 (by kernel_rfl) ?h3f4 ?h4f4 ?h5f4 ?h6f4 (by assumption) ?h8f4
                  case hif4 => (simp only [List.getElem?_toArray, List.getElem?_cons_succ, List.getElem?_cons_zero]; rfl)
                  case h3f4 => kernel_rfl
                  case h4f4 => kernel_rfl
                  case h6f4 => (refine Or.inl ⟨by rfl, ?_⟩; intro w hSw; (try dsimp only at hSw); (go_simp <;> with_reducible rfl))
                  case h5f4 => exact fun _ _ _ h => h
                  try simp only [Act.put, List.setIfInBounds_toArray, List.set_cons_zero, List.set_cons_succ]
                  refine wpAnyH_ready (rs := [5]) (by kernel_rfl) (by simp) (AllReadyH.cons (o := ?oof5) ?hif5 (fun K hK => ?hkf5) AllReadyH.nil)
                  rotate_left
                  case hif5 => (simp only [List.getElem?_toArray, List.getElem?_cons_succ, List.getElem?_cons_zero]; rfl)
                  (rw [if_pos (by rfl)]; go_simp; refine (inRange_yes x 1 999 _ h2.1 h2.2).mono ?_; rintro e w3 ⟨rfl, rfl⟩; go_wp2_with fail; refine hK.out _ _ (by assumption) (fun hHeld => ?_); clear hK K)
                  try simp only [Act.put, List.setIfInBounds_toArray, List.set_cons_zero, List.set_cons_succ]
                  refine wpAnyH_take (i := 6) (oi := ?oof6) (v := ?vvf6) ?hif6 (by kernel_rfl) ?h3f6 ?h4f6 ?h5f6 ?h6f6 (by assumption) ?h8f6
                  case hif6 => (simp only [List.getElem?_toArray, List.getElem?_cons_succ, List.getElem?_cons_zero]; rfl)
                  case h3f6 => kernel_rfl
                  case h4f6 => kernel_rfl
                  case h6f6 => (refine Or.inl ⟨by rfl, ?_⟩; intro w hSw; (try dsimp only at hSw); (go_simp <;> with_reducible rfl))
                  case h5f6 => exact fun _ _ _ h => h
                  try simp only [Act.put, List.setIfInBounds_toArray, List.set_cons_zero, List.set_cons_succ]
                  refine wpAnyH_take (i := 7) (oi := ?oof7) (v := ?vvf7) ?hif7 (by kernel_rfl) ?h3f7 ?h4f7 ?h5f7 ?h6f7 (by assumption) ?h8f7
                  case hif7 => (simp only [List.getElem?_toArray, List.getElem?_cons_succ, List.getElem?_cons_zero]; rfl)
                  case h3f7 => kernel_rfl
                  case h4f7 => kernel_rfl
                  case h6f7 => (refine Or.inl ⟨by rfl, ?_⟩; intro w hSw; (try dsimp only at hSw); (go_simp <;> with_reducible rfl))
                  case h5f7 => exact fun _ _ _ h => h
                  try simp only [Act.put, List.setIfInBounds_toArray, List.set_cons_zero, List.set_cons_succ]
                  refine wpAnyH_take (i := 8) (oi := ?oof8) (v := ?vvf8) ?hif8 (by kernel_rfl) ?h3f8 ?h4f8 ?h5f8 ?h6f8 (by assumption) ?h8f8
                  case hif8 => (simp only [List.getElem?_toArray, List.getElem?_cons_succ, List.getElem?_cons_zero]; rfl)
                  case h3f8 => kernel_rfl
                  case h4f8 => kernel_rfl
                  case h6f8 => (refine Or.inl ⟨by rfl, ?_⟩; intro w hSw; (try dsimp only at hSw); (go_simp <;> with_reducible rfl))
                  case h5f8 => exact fun _ _ _ h => h
                  try simp only [Act.put, List.setIfInBounds_toArray, List.set_cons_zero, List.set_cons_succ]
                  refine wpAnyH_take (i := 9) (oi := ?oof9) (v := ?vvf9) ?hif9 (by kernel_rfl) ?h3f9 ?h4f9 ?h5f9 ?h6f9 (by assumption) ?h8f9
                  case hif9 => (simp only [List.getElem?_toArray, List.getElem?_cons_succ, List.getElem?_cons_zero]; rfl)
                  case h3f9 => kernel_rfl
                  case h4f9 => kernel_rfl
                  case h6f9 => (refine Or.inl ⟨by rfl, ?_⟩; intro w hSw; (try dsimp only at hSw); (go_simp <;> with_reducible rfl))
                  case h5f9 => exact fun _ _ _ h => h
                  try simp only [Act.put, List.setIfInBounds_toArray, List.set_cons_zero, List.set_cons_succ]
                  refine wpAnyH_take (i := 10) (oi := ?oof10) (v := ?vvf10) ?hif10 (by kernel_rfl) ?h3f10 ?h4f10 ?h5f10 ?h6f10 (by assumption) ?h8f10
                  case hif10 => (simp only [List.getElem?_toArray, List.getElem?_cons_succ, List.getElem?_cons_zero]; rfl)
                  case h3f10 => kernel_rfl
                  case h4f10 => kernel_rfl
                  case h6f10 => (refine Or.inl ⟨by rfl, ?_⟩; intro w hSw; (try dsimp only at hSw); (go_simp <;> with_reducible rfl))
                  case h5f10 => exact fun _ _ _ h => h
                  try simp only [Act.put, List.setIfInBounds_toArray, List.set_cons_zero, List.set_cons_succ]
                  refine wpAnyH_take (i := 11) (oi := ?oof11) (v := ?vvf11) ?hif11 (by kernel_rfl) ?h3f11 ?h4f11 ?h5f11 ?h6f11 (by assumption) ?h8f11
                  case hif11 => (simp only [List.getElem?_toArray, List.getElem?_cons_succ, List.getElem?_cons_zero]; rfl)
                  case h3f11 => kernel_rfl
                  case h4f11 => kernel_rfl
                  case h6f11 => (refine Or.inl ⟨by rfl, ?_⟩; intro w hSw; (try dsimp only at hSw); (go_simp <;> with_reducible rfl))
                  case h5f11 => exact fun _ _ _ h => h
                  try simp only [Act.put, List.setIfInBounds_toArray, List.set_cons_zero, List.set_cons_succ]
                  refine wpAnyH_take (i := 12) (oi := ?oof12) (v := ?vvf12) ?hif12 (by kernel_rfl) ?h3f12 ?h4f12 ?h5f12 ?h6f12 (by assumption) ?h8f12
                  case hif12 => (simp only [List.getElem?_toArray, List.getElem?_cons_succ, List.getElem?_cons_zero]; rfl)
                  case h3f12 => kernel_rfl
                  case h4f12 => kernel_rfl
                  case h6f12 => (refine Or.inl ⟨by rfl, ?_⟩; intro w hSw; (try dsimp only at hSw); (go_simp <;> with_reducible rfl))
                  case h5f12 => exact fun _ _ _ h => h
                  try simp only [Act.put, List.setIfInBounds_toArray, List.set_cons_zero, List.set_cons_succ]
                  refine wpAnyH_ready (rs := [13]) (by kernel_rfl) (by simp) (AllReadyH.cons (o := ?oof13) ?hif13 (fun K hK => ?hkf13) AllReadyH.nil)
                  rotate_left
                  case hif13 => (simp only [List.getElem?_toArray, List.getElem?_cons_succ, List.getElem?_cons_zero]; rfl)
                  (rw [if_pos (by rfl)]; go_simp; refine (vf_boolY HV.out _).mono ?_; rintro e w3 ⟨rfl, hb⟩; go_wp2_with fail; refine hK.out _ _ (keep4 hb (by assumption)) (fun hHeld => ?_); clear hK K)
                  try simp only [Act.put, List.setIfInBounds_toArray, List.set_cons_zero, List.set_cons_succ]
                  refine wpAnyH_take (i := 14) (oi := ?oof14) (v := ?vvf14) ?hif14 (by kernel_rfl) ?h3f14 ?h4f14 ?h5f14 ?h6f14 (by assumption) ?h8f14
                  case hif14 => (simp only [List.getElem?_toArray, List.getElem?_cons_succ, List.getElem?_cons_zero]; rfl)
                  case h3f14 => kernel_rfl
                  case h4f14 => kernel_rfl
                  case h6f14 => (refine Or.inl ⟨by rfl, ?_⟩; intro w hSw; (try dsimp only at hSw); (go_simp <;> with_reducible rfl))
                  case h5f14 => exact fun _ _ _ h => h
                  try simp only [Act.put, List.setIfInBounds_toArray, List.set_cons_zero, List.set_cons_succ]
                  refine wpAnyH_take (i := 15) (oi := ?oof15) (v := ?vvf15) ?hif15 (by kernel_rfl) ?h3f15 ?h4f15 ?h5f15 ?h6f15 (by assumption) ?h8f15
                  case hif15 => (simp only [List.getElem?_toArray, List.getElem?_cons_succ, List.getElem?_cons_zero]; rfl)
                  case h3f15 => kernel_rfl
                  case h4f15 => kernel_rfl
                  case h6f15 => (refine Or.inl ⟨by rfl, ?_⟩; intro w hSw; (try dsimp only at hSw); (go_simp <;> with_reducible rfl))
                  case h5f15 => exact fun _ _ _ h => h
                  try simp only [Act.put, List.setIfInBounds_toArray, List.set_cons_zero, List.set_cons_succ]
                  refine wpAnyH_take (i := 16) (oi := ?oof16) (v := ?vvf16) ?hif16 (by kernel_rfl) ?h3f16 ?h4f16 ?h5f16 ?h6f16 (by assumption) ?h8f16
                  case hif16 => (simp only [List.getElem?_toArray, List.getElem?_cons_succ, List.getElem?_cons_zero]; rfl)
                  case h3f16 => kernel_rfl
                  case h4f16 => kernel_rfl
                  case h6f16 => (refine Or.inl ⟨by rfl, ?_⟩; intro w hSw; (try dsimp only at hSw); (go_simp <;> with_reducible rfl))
                  case h5f16 => exact fun _ _ _ h => h
                  try simp only [Act.put, List.setIfInBounds_toArray, List.set_cons_zero, List.set_cons_succ]
                  refine wpAnyH_take (i := 17) (oi := ?oof17) (v := ?vvf17) ?hif17 (by kernel_rfl) ?h3f17 ?h4f17 ?h5f17 ?h6f17 (by assumption) ?h8f17
                  case hif17 => (simp only [List.getElem?_toArray, List.getElem?_cons_succ, List.getElem?_cons_zero]; rfl)
                  case h3f17 => kernel_rfl
                  case h4f17 => kernel_rfl
                  case h6f17 => (refine Or.inl ⟨by rfl, ?_⟩; intro w hSw; (try dsimp only at hSw); (go_simp <;> with_reducible rfl))
                  case h5f17 => exact fun _ _ _ h => h
                  try simp only [Act.put, List.setIfInBounds_toArray, List.set_cons_zero, List.set_cons_succ]
                  refine wpAnyH_take (i := 18) (oi := ?oof18) (v := ?vvf18) ?hif18 (by kernel_rfl) ?h3f18 ?h4f18 ?h5f18 ?h6f18 (by assumption) ?h8f18
                  case hif18 => (simp only [List.getElem?_toArray, List.getElem?_cons_succ, List.getElem?_cons_zero]; rfl)
                  case h3f18 => kernel_rfl
                  case h4f18 => kernel_rfl
                  case h6f18 => (refine Or.inl ⟨by rfl, ?_⟩; intro w hSw; (try dsimp only at hSw); (go_simp <;> with_reducible rfl))
                  case h5f18 => exact fun _ _ _ h => h
                  try simp only [Act.put, List.setIfInBounds_toArray, List.set_cons_zero, List.set_cons_succ]
                  refine wpAnyH_take (i := 19) (oi := ?oof19) (v := ?vvf19) ?hif19 (by kernel_rfl) ?h3f19 ?h4f19 ?h5f19 ?h6f19 (by assumption) ?h8f19
                  case hif19 => (simp only [List.getElem?_toArray, List.getElem?_cons_succ, List.getElem?_cons_zero]; rfl)
                  case h3f19 => kernel_rfl
                  case h4f19 => kernel_rfl
                  case h6f19 => (refine Or.inl ⟨by rfl, ?_⟩; intro w hSw; (try dsimp only at hSw); (go_simp <;> with_reducible rfl))
                  case h5f19 => exact fun _ _ _ h => h
                  try simp only [Act.put, List.setIfInBounds_toArray, List.set_cons_zero, List.set_cons_succ]
                  refine wpAnyH_take (i := 20) (oi := ?oof20) (v := ?vvf20) ?hif20 (by kernel_rfl) ?h3f20 ?h4f20 ?h5f20 ?h6f20 (by assumption) ?h8f20
                  case hif20 => (simp only [List.getElem?_toArray, List.getElem?_cons_succ, List.getElem?_cons_zero]; rfl)
                  case h3f20 => kernel_rfl
                  case h4f20 => kernel_rfl
                  case h6f20 => (refine Or.inl ⟨by rfl, ?_⟩; intro w hSw; (try dsimp only at hSw); (go_simp <;> with_reducible rfl))
                  case h5f20 => exact fun _ _ _ h => h
                  try simp only [Act.put, List.setIfInBounds_toArray, List.set_cons_zero, List.set_cons_succ]
                  refine wpAnyH_take (i := 21) (oi := ?oof21) (v := ?vvf21) ?hif21 (by kernel_rfl) ?h3f21 ?h4f21 ?h5f21 ?h6f21 (by assumption) ?h8f21
                  case hif21 => (simp only [List.getElem?_toArray, List.getElem?_cons_succ, List.getElem?_cons_zero]; rfl)
                  case h3f21 => kernel_rfl
                  case h4f21 => kernel_rfl
                  case h6f21 => (refine Or.inl ⟨by rfl, ?_⟩; intro w hSw; (try dsimp only at hSw); (go_simp <;> with_reducible rfl))
                  case h5f21 => exact fun _ _ _ h => h
                  try simp only [Act.put, List.setIfInBounds_toArray, List.set_cons_zero, List.set_cons_succ]
                  refine wpAnyH_take (i := 22) (oi := ?oof22) (v := ?vvf22) ?hif22 (by kernel_rfl) ?h3f22 ?h4f22 ?h5f22 ?h6f22 (by assumption) ?h8f22
                  case hif22 => (simp only [List.getElem?_toArray, List.getElem?_cons_succ, List.getElem?_cons_zero]; rfl)
                  case h3f22 => kernel_rfl
                  case h4f22 => kernel_rfl
                  case h6f22 => (refine Or.inl ⟨by rfl, ?_⟩; intro w hSw; (try dsimp only at hSw); (go_simp <;> with_reducible rfl))
                  case h5f22 => exact fun _ _ _ h => h
                  try simp only [Act.put, List.setIfInBounds_toArray, List.set_cons_zero, List.set_cons_succ]
                  refine wpAnyH_take (i := 23) (oi := ?oof23) (v := ?vvf23) ?hif23 (by kernel_rfl) ?h3f23 ?h4f23 ?h5f23 ?h6f23 (by assumption) ?h8f23
                  case hif23 => (simp only [List.getElem?_toArray, List.getElem?_cons_succ, List.getElem?_cons_zero]; rfl)
                  case h3f23 => kernel_rfl
                  case h4f23 => kernel_rfl
                  case h6f23 => (refine Or.inl ⟨by rfl, ?_⟩; intro w hSw; (try dsimp only at hSw); (go_simp <;> with_reducible rfl))
                  case h5f23 => exact fun _ _ _ h => h
                  try simp only [Act.put, List.setIfInBounds_toArray, List.set_cons_zero, List.set_cons_succ]
                  refine wpAnyH_take (i := 24) (oi := ?oof24) (v := ?vvf24) ?hif24 (by kernel_rfl) ?h3f24 ?h4f24 ?h5f24 ?h6f24 (by assumption) ?h8f24
                  case hif24 => (simp only [List.getElem?_toArray, List.getElem?_cons_succ, List.getElem?_cons_zero]; rfl)
                  case h3f24 => kernel_rfl
                  case h4f24 => kernel_rfl
                  case h6f24 => (refine Or.inl ⟨by rfl, ?_⟩; intro w hSw; (try dsimp only at hSw); (go_simp <;> with_reducible rfl))
                  case h5f24 => exact fun _ _ _ h => h
                  try simp only [Act.put, List.setIfInBounds_toArray, List.set_cons_zero, List.set_cons_succ]
                  refine wpAnyH_take (i := 25) (oi := ?oof25) (v := ?vvf25) ?hif25 (by kernel_rfl) ?h3f25 ?h4f25 ?h5f25 ?h6f25 (by assumption) ?h8f25
                  case hif25 => (simp only [List.getElem?_toArray, List.getElem?_cons_succ, List.getElem?_cons_zero]; rfl)
                  case h3f25 => kernel_rfl
                  case h4f25 => kernel_rfl
                  case h6f25 => (refine Or.inl ⟨by rfl, ?_⟩; intro w hSw; (try dsimp only at hSw); (go_simp <;> with_reducible rfl))
                  case h5f25 => exact fun _ _ _ h => h
                  try simp only [Act.put, List.setIfInBounds_toArray, List.set_cons_zero, List.set_cons_succ]
                  refine wpAnyH_take (i := 26) (oi := ?oof26) (v := ?vvf26) ?hif26 (by kernel_rfl) ?h3f26 ?h4f26 ?h5f26 ?h6f26 (by assumption) ?h8f26
                  case hif26 => (simp only [List.getElem?_toArray, List.getElem?_cons_succ, List.getElem?_cons_zero]; rfl)
                  case h3f26 => kernel_rfl
                  case h4f26 => kernel_rfl
                  case h6f26 => (refine Or.inl ⟨by rfl, ?_⟩; intro w hSw; (try dsimp only at hSw); (go_simp <;> with_reducible rfl))
                  case h5f26 => exact fun _ _ _ h => h
                  try simp only [Act.put, List.setIfInBounds_toArray, List.set_cons_zero, List.set_cons_succ]
                  refine wpAnyH_take (i := 27) (oi := ?oof27) (v := ?vvf27) ?hif27 (by kernel_rfl) ?h3f27 ?h4f27 ?h5f27 ?h6f27 (by assumption) ?h8f27
                  case hif27 => (simp only [List.getElem?_toArray, List.getElem?_cons_succ, List.getElem?_cons_zero]; rfl)
                  case h3f27 => kernel_rfl
                  case h4f27 => kernel_rfl
                  case h6f27 => (refine Or.inl ⟨by rfl, ?_⟩; intro w hSw; (try dsimp only at hSw); (go_simp <;> with_reducible rfl))
                  case h5f27 => exact fun _ _ _ h => h
                  try simp only [Act.put, List.setIfInBounds_toArray, List.set_cons_zero, List.set_cons_succ]
                  refine wpAnyH_take (i := 28) (oi := ?oof28) (v := ?vvf28) ?hif28 (by kernel_rfl) ?h3f28 ?h4f28 ?h5f28 ?h6f28 (by assumption) ?h8f28
                  case hif28 => (simp only [List.getElem?_toArray, List.getElem?_cons_succ, List.getElem?_cons_zero]; rfl)
                  case h3f28 => kernel_rfl
                  case h4f28 => kernel_rfl
                  case h6f28 => (refine Or.inl ⟨by rfl, ?_⟩; intro w hSw; (try dsimp only at hSw); (go_simp <;> with_reducible rfl))
                  case h5f28 => exact fun _ _ _ h => h
                  try simp only [Act.put, List.setIfInBounds_toArray, List.set_cons_zero, List.set_cons_succ]
                  refine wpAnyH_take (i := 29) (oi := ?oof29) (v := ?vvf29) ?hif29 (by kernel_rfl) ?h3f29 ?h4f29 ?h5f29 ?h6f29 (by assumption) ?h8f29
                  case hif29 => (simp only [List.getElem?_toArray, List.getElem?_cons_succ, List.getElem?_cons_zero]; rfl)
                  case h3f29 => kernel_rfl
                  case h4f29 => kernel_rfl
                  case h6f29 => (refine Or.inl ⟨by rfl, ?_⟩; intro w hSw; (try dsimp only at hSw); (go_simp <;> with_reducible rfl))
                  case h5f29 => exact fun _ _ _ h => h
                  try simp only [Act.put, List.setIfInBounds_toArray, List.set_cons_zero, List.set_cons_succ]
                  refine wpAnyH_take (i := 30) (oi := ?oof30) (v := ?vvf30) ?hif30 (by kernel_rfl) ?h3f30 ?h4f30 ?h5f30 ?h6f30 (by assumption) ?h8f30
                  case hif30 => (simp only [List.getElem?_toArray, List.getElem?_cons_succ, List.getElem?_cons_zero]; rfl)
                  case h3f30 => kernel_rfl
                  case h4f30 => kernel_rfl
                  case h6f30 => (refine Or.inl ⟨by rfl, ?_⟩; intro w hSw; (try dsimp only at hSw); (go_simp <;> with_reducible rfl))
                  case h5f30 => exact fun _ _ _ h => h
                  try simp only [Act.put, List.setIfInBounds_toArray, List.set_cons_zero, List.set_cons_succ]
                  refine wpAnyH_take (i := 31) (oi := ?oof31) (v := ?vvf31) ?hif31 (by kernel_rfl) ?h3f31 ?h4f31 ?h5f31 ?h6f31 (by assumption) ?h8f31
                  case hif31 => (simp only [List.getElem?_toArray, List.getElem?_cons_succ, List.getElem?_cons_zero]; rfl)
                  case h3f31 => kernel_rfl
                  case h4f31 => kernel_rfl
                  case h6f31 => (refine Or.inl ⟨by rfl, ?_⟩; intro w hSw; (try dsimp only at hSw); (go_simp <;> with_reducible rfl))
                  case h5f31 => exact fun _ _ _ h => h
                  try simp only [Act.put, List.setIfInBounds_toArray, List.set_cons_zero, List.set_cons_succ]
                  refine wpAnyH_take (i := 32) (oi := ?oof32) (v := ?vvf32) ?hif32 (by kernel_rfl) ?h3f32 ?h4f32 ?h5f32 ?h6f32 (by assumption) ?h8f32
                  case hif32 => (simp only [List.getElem?_toArray, List.getElem?_cons_succ, List.getElem?_cons_zero]; rfl)
                  case h3f32 => kernel_rfl
                  case h4f32 => kernel_rfl
                  case h6f32 => (refine Or.inl ⟨by rfl, ?_⟩; intro w hSw; (try dsimp only at hSw); (go_simp <;> with_reducible rfl))
                  case h5f32 => exact fun _ _ _ h => h
                  try simp only [Act.put, List.setIfInBounds_toArray, List.set_cons_zero, List.set_cons_succ]
                  refine wpAnyH_take (i := 33) (oi := ?oof33) (v := ?vvf33) ?hif33 (by kernel_rfl) ?h3f33 ?h4f33 ?h5f33 ?h6f33 (by assumption) ?h8f33
                  case hif33 => (simp only [List.getElem?_toArray, List.getElem?_cons_succ, List.getElem?_cons_zero]; rfl)
                  case h3f33 => kernel_rfl
                  case h4f33 => kernel_rfl
                  case h6f33 => (refine Or.inl ⟨by rfl, ?_⟩; intro w hSw; (try dsimp only at hSw); (go_simp <;> with_reducible rfl))
                  case h5f33 => exact fun _ _ _ h => h
                  try simp only [Act.put, List.setIfInBounds_toArray, List.set_cons_zero, List.set_cons_succ]
                  refine wpAnyH_take (i := 34) (oi := ?oof34) (v := ?vvf34) ?hif34 (by kernel_rfl) ?h3f34 ?h4f34 ?h5f34 ?h6f34 (by assumption) ?h8f34
                  case hif34 => (simp only [List.getElem?_toArray, List.getElem?_cons_succ, List.getElem?_cons_zero]; rfl)
                  case h3f34 => kernel_rfl
                  case h4f34 => kernel_rfl
                  case h6f34 => (refine Or.inl ⟨by rfl, ?_⟩; intro w hSw; (try dsimp only at hSw); (go_simp <;> with_reducible rfl))
                  case h5f34 => exact fun _ _ _ h => h
                  try simp only [Act.put, List.setIfInBounds_toArray, List.set_cons_zero, List.set_cons_succ]
                  refine wpAnyH_take (i := 35) (oi := ?oof35) (v := ?vvf35) ?hif35 (by kernel_rfl) ?h3f35 ?h4f35 ?h5f35 ?h6f35 (by assumption) ?h8f35
                  case hif35 => (simp only [List.getElem?_toArray, List.getElem?_cons_succ, List.getElem?_cons_zero]; rfl)
                  case h3f35 => kernel_rfl
                  case h4f35 => kernel_rfl
                  case h6f35 => (refine Or.inl ⟨by rfl, ?_⟩; intro w hSw; (try dsimp only at hSw); (go_simp <;> with_reducible rfl))
                  case h5f35 => exact fun _ _ _ h => h
                  try simp only [Act.put, List.setIfInBounds_toArray, List.set_cons_zero, List.set_cons_succ]
                  refine wpAnyH_take (i := 36) (oi := ?oof36) (v := ?vvf36) ?hif36 (by kernel_rfl) ?h3f36 ?h4f36 ?h5f36 ?h6f36 (by assumption) ?h8f36
                  case hif36 => (simp only [List.getElem?_toArray, List.getElem?_cons_succ, List.getElem?_cons_zero]; rfl)
                  case h3f36 => kernel_rfl
                  case h4f36 => kernel_rfl
                  case h6f36 => (refine Or.inl ⟨by rfl, ?_⟩; intro w hSw; (try dsimp only at hSw); (go_simp <;> with_reducible rfl))
                  case h5f36 => exact fun _ _ _ h => h
                  try simp only [Act.put, List.setIfInBounds_toArray, List.set_cons_zero, List.set_cons_succ]
                  refine wpAnyH_take (i := 37) (oi := ?oof37) (v := ?vvf37) ?hif37 (by kernel_rfl) ?h3f37 ?h4f37 ?h5f37 ?h6f37 (by assumption) ?h8f37
                  case hif37 => (simp only [List.getElem?_toArray, List.getElem?_cons_succ, List.getElem?_cons_zero]; rfl)
                  case h3f37 => kernel_rfl
                  case h4f37 => kernel_rfl
                  case h6f37 => (refine Or.inl ⟨by rfl, ?_⟩; intro w hSw; (try dsimp only at hSw); (go_simp <;> with_reducible rfl))
                  case h5f37 => exact fun _ _ _ h => h
                  try simp only [Act.put, List.setIfInBounds_toArray, List.set_cons_zero, List.set_cons_succ]
                  refine wpAnyH_take (i := 38) (oi := ?oof38) (v := ?vvf38) ?hif38 (by kernel_rfl) ?h3f38 ?h4f38 ?h5f38 ?h6f38 (by assumption) ?h8f38
                  case hif38 => (simp only [List.getElem?_toArray, List.getElem?_cons_succ, List.getElem?_cons_zero]; rfl)
                  case h3f38 => kernel_rfl
                  case h4f38 => kernel_rfl
                  case h6f38 => (refine Or.inl ⟨by rfl, ?_⟩; intro w hSw; (try dsimp only at hSw); (go_simp <;> with_reducible rfl))
                  case h5f38 => exact fun _ _ _ h => h
                  try simp only [Act.put, List.setIfInBounds_toArray, List.set_cons_zero, List.set_cons_succ]
                  refine wpAnyH_take (i := 39) (oi := ?oof39) (v := ?vvf39) ?hif39 (by kernel_rfl) ?h3f39 ?h4f39 ?h5f39 ?h6f39 (by assumption) ?h8f39
                  case hif39 => (simp only [List.getElem?_toArray, List.getElem?_cons_succ, List.getElem?_cons_zero]; rfl)
                  case h3f39 => kernel_rfl
                  case h4f39 => kernel_rfl
                  case h6f39 => (refine Or.inl ⟨by rfl, ?_⟩; intro w hSw; (try dsimp only at hSw); (go_simp <;> with_reducible rfl))
                  case h5f39 => exact fun _ _ _ h => h
                  try simp only [Act.put, List.setIfInBounds_toArray, List.set_cons_zero, List.set_cons_succ]
                  refine wpAnyH_take (i := 40) (oi := ?oof40) (v := ?vvf40) ?hif40 (by kernel_rfl) ?h3f40 ?h4f40 ?h5f40 ?h6f40 (by assumption) ?h8f40
                  case hif40 => (simp only [List.getElem?_toArray, List.getElem?_cons_succ, List.getElem?_cons_zero]; rfl)
                  case h3f40 => kernel_rfl
                  case h4f40 => kernel_rfl
                  case h6f40 => (refine Or.inl ⟨by rfl, ?_⟩; intro w hSw; (try dsimp only at hSw); (go_simp <;> with_reducible rfl))
                  case h5f40 => exact fun _ _ _ h => h
                  try simp only [Act.put, List.setIfInBounds_toArray, List.set_cons_zero, List.set_cons_succ]
                  refine wpAnyH_take (i := 41) (oi := ?oof41) (v := ?vvf41) ?hif41 (by kernel_rfl) ?h3f41 ?h4f41 ?h5f41 ?h6f41 (by assumption) ?h8f41
                  case hif41 => (simp only [List.getElem?_toArray, List.getElem?_cons_succ, List.getElem?_cons_zero]; rfl)
                  case h3f41 => kernel_rfl
                  case h4f41 => kernel_rfl
                  case h6f41 => (refine Or.inl ⟨by rfl, ?_⟩; intro w hSw; (try dsimp only at hSw); (go_simp <;> with_reducible rfl))
                  case h5f41 => exact fun _ _ _ h => h
                  try simp only [Act.put, List.setIfInBounds_toArray, List.set_cons_zero, List.set_cons_succ]
                  refine wpAnyH_take (i := 42) (oi := ?oof42) (v := ?vvf42) ?hif42 (by kernel_rfl) ?h3f42 ?h4f42 ?h5f42 ?h6f42 (by assumption) ?h8f42
                  case hif42 => (simp only [List.getElem?_toArray, List.getElem?_cons_succ, List.getElem?_cons_zero]; rfl)
                  case h3f42 => kernel_rfl
                  case h4f42 => kernel_rfl
                  case h6f42 => (refine Or.inl ⟨by rfl, ?_⟩; intro w hSw; (try dsimp only at hSw); (go_simp <;> with_reducible rfl))
                  case h5f42 => exact fun _ _ _ h => h
                  try simp only [Act.put, List.setIfInBounds_toArray, List.set_cons_zero, List.set_cons_succ]
                  refine wpAnyH_done (by kernel_rfl) ?_ _
                  go_wp2_with fail
                  go_roundw
                  case rel => exact ⟨m + 1 + 1, by go_num, by omega, HZ.out, HY.out, bel_tr HB.out.drew hb⟩
                  case measure => simp [intOf]; omega
      · obtain rfl : hs.length = k := by omega
        have hs0 := ssumOf (some ⟨g, off, none⟩) cap hs wr (hs_below H0.out hB) hn (rng_yes HF.out)
        have hw0 := vl_all (rng_yes HA.out) (rng_yes HF.out)
        have H1 := Lib.hid hs0
        have H2 := Lib.hid hw0
        clear hs0 hw0
        cases hq : allQ hs with
        | false =>
          have hsum : Calls Try.prog 113 #[.slice (some ⟨g, off, none⟩) hs.length cap] wr fun e w' => e = .returned (.tuple #[.agg #[.int .i64 0, .int .i64 0], .bool false]) ∧ Below wr.heap.size wr w' := by
            have := H1.out
            unfold SumV at this
            rw [hq] at this
            exact this
          have HN : Hid (vlR hs = false) := by have := H2.out; rw [hq] at this; exact this
          clear hq
          go_wp2_with fail
          refine hsum.mono ?_
          rintro e w1 ⟨rfl, hb⟩
          have hB1 := bel_tr hB hb
          go_wp2_with fail
          go_ret
          exact ⟨ret_bool HN.out.symm, hB1.alloc hB1.size _⟩
        | true =>
          obtain ⟨x, hx⟩ : ∃ x, x = (sumQ hs hs.length).num := ⟨_, rfl⟩
          obtain ⟨y, hy⟩ : ∃ y, y = ((sumQ hs hs.length).den : Int) := ⟨_, rfl⟩
          have hsum : Calls Try.prog 113 #[.slice (some ⟨g, off, none⟩) hs.length cap] wr fun e w' => e = .returned (.tuple #[.agg #[.int .i64 x, .int .i64 y], .bool true]) ∧ Below wr.heap.size wr w' := by
            have := H1.out
            unfold SumV at this
            rw [hq] at this
            rw [hx, hy]
            exact this
          have H3 : Hid (x = 1 → y = 1 → decide ((hs.length : Int) ≤ 12) = vlR hs) := fun e1 e2 => by
            have := H2.out
            rw [hq, decide_eq_true (one_iff.2 (by rw [← hx, ← hy, e1, e2]))] at this
            rw [this, Bool.true_and, Bool.true_and, decide_eq_decide]; omega
          have H4 : Hid ((¬ x = 1 ∨ ¬ y = 1) → false = vlR hs) := fun e => by
            have := H2.out
            rw [hq, decide_eq_false (fun c => by rw [c] at hx hy; rcases e with e | e; exact e hx; exact e hy)] at this
            rw [this]; rfl
          clear hq hx hy
          go_wp2_with fail
          refine hsum.mono ?_
          rintro e w1 ⟨rfl, hb⟩
          have hB1 := bel_tr hB hb
          go_wp2_with fail
          all_goals (
            go_ret
            first
            | exact ⟨ret_bool (H3.out (by assumption) (by assumption)), hB1.alloc hB1.size _⟩
            | exact ⟨ret_bool (H3.out rfl rfl), hB1.alloc hB1.size _⟩
            | exact ⟨ret_bool (H4.out (.inl (by assumption))), hB1.alloc hB1.size _⟩
            | exact ⟨ret_bool (H4.out (.inr (by assumption))), hB1.alloc hB1.size _⟩)
end Go.Proofs.Ytaehemmjemhgpaa
