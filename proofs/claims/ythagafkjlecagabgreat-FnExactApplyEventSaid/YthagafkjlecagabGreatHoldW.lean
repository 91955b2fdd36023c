/- spec.validLedger and spec.ValidLedger. Condition: at most 1048576 holdings. -/
import Derived.Test.YthagafkjlecagabGreatG0
import Derived.Test.YthagafkjlecagabGreatG1
import Derived.IntWalk
set_option maxRecDepth 100000
set_option maxHeartbeats 16000000
namespace Go.Proofs.YthagafkjlecagabGreat
open Go.RowKit
set_option linter.unusedSimpArgs false

theorem keep3 {w w' : World} {p q r : Addr} {u v x : Value} (hb : Below w.heap.size w w') (h : w.cell? p = some u ∧ w.cell? q = some v ∧ w.cell? r = some x) : w'.cell? p = some u ∧ w'.cell? q = some v ∧ w'.cell? r = some x := ⟨cell_next hb h.1, cell_next hb h.2.1, cell_next hb h.2.2⟩
def LoopRel (w : World) (hs : List Hd) (k : Nat) (wr : World) : Prop := k ≤ hs.length ∧ (∀ j, j < k → okA hs j = true) ∧ (∀ j, j < k → okF hs j = true) ∧ Below w.heap.size w wr

theorem svl (a : Option Addr) (cap : Nat) (hs : List Hd) (w : World) (h : IsHs w a hs) (hn : hs.length ≤ 1048576) :
    Calls Tryz.prog 47 #[.slice a hs.length cap] w fun e w' => e = .returned (.bool (vlR hs)) ∧ Below w.heap.size w w' := by
  have H0 := Lib.hid h
  rcases h with rfl | ⟨g, off, rfl, hc⟩
  · have hs0 : Calls Tryz.prog 88 #[.slice a 0 cap] w fun e w' => e = .returned (.tuple #[.agg #[.int .i64 0, .int .i64 1], .bool true]) ∧ Below w.heap.size w w' := ssumOf a cap [] w H0.out (by simp) rfl
    go_enter Tryz.func47, Tryz.ntmps47; go_wp2_with fail; refine wp_loop_rounds 1 ?_; rw [rounds_succ]; go_wp2_with fail; refine hs0.mono ?_; rintro e w1 ⟨rfl, hb⟩; go_wp2_with fail; go_ret; exact ⟨rfl, hb.alloc hb.size _⟩
  · have HC := Lib.hid hc
    clear hc; go_enter Tryz.func47, Tryz.ntmps47; go_wp2_with fail
    go_loopw [3] (fun i wr => ∃ k : Nat, i = .int .i64 k ∧ LoopRel w hs k wr) (fun i _ => hs.length - (intOf i).toNat)
    case atStart => exact ⟨0, rfl, Nat.zero_le _, fun j hj => by omega, fun j hj => by omega, by go_grown⟩
    case round =>
      obtain ⟨k, rfl, hk, ha, hf, hB⟩ := hrel; have HA := Lib.hid ha; have HF := Lib.hid hf; clear ha hf
      by_cases hlt : k < hs.length
      · obtain ⟨c0, c1, c2⟩ := cells_at HC.out hB hlt
        have hok := okA_def hs k; have hof : okF hs k = (Wsh.vfB (hs.getD k hd0).2.1 (hs.getD k hd0).2.2 && decide ((hs.getD k hd0).2.1 ≠ 0)) := rfl
        obtain ⟨p, d0, hp⟩ : ∃ p, (0 < k → wr.cell? ⟨g, off + (k - 1) * 3, none⟩ = some (.int .i64 p)) ∧ prevO hs k = p := by
          refine ⟨_, fun h0 => ?_, rfl⟩; unfold prevO; rw [if_neg (by omega)]; exact (cells_at HC.out hB (k := k - 1) (by omega)).1
        generalize hs.getD k hd0 = hh at c0 c1 c2 hok hof; obtain ⟨x, n, d⟩ := hh; rw [hp] at hok; dsimp only at c0 c1 c2 hok hof; have HO := Lib.hid hok; have HG := Lib.hid hof; have HB := Lib.hid hB; have HD := Lib.hid d0; have HP := Lib.hid hp; clear hok hof hB d0 hp
        have i0 : (0 : Int) ≤ (k : Int) := by omega
        have i1 : (k : Int) < (hs.length : Int) := by omega
        by_cases hA : x < 1 ∨ 999 < x
        · have HN : Hid (vlR hs = false) := vl_noA hlt (by rw [HO.out]; simp; omega)
          go_wp2_with fail; refine wp_region_held_drew (S := fun w' => w'.cell? ⟨g, off + k * 3, none⟩ = some (.int .i64 x) ∧ w'.cell? ⟨g, off + k * 3 + 1, none⟩ = some (.int .i64 n) ∧ w'.cell? ⟨g, off + k * 3 + 2, none⟩ = some (.int .i64 d)) (by kernel_rfl) ?_ (fun hHeld => ?_)
          · exact ⟨c0, c1, c2⟩
          refine tk (i := 0) (v := ?v57) rfl ?c57 ?d57
          case c57 => (refine .inl ⟨by rfl, ?_⟩; intro w h; (try dsimp only at h); go_simp <;> with_reducible rfl)
          try simp only [pt]
          refine tk (i := 1) (v := ?v58) rfl ?c58 ?d58
          case c58 => (refine .inl ⟨by rfl, ?_⟩; intro w h; (try dsimp only at h); go_simp <;> with_reducible rfl)
          try simp only [pt]
          refine tk (i := 2) (v := ?v59) rfl ?c59 ?d59
          case c59 => (refine .inl ⟨by rfl, ?_⟩; intro w h; (try dsimp only at h); go_simp <;> with_reducible rfl)
          try simp only [pt]
          refine tk (i := 3) (v := ?v5a) rfl ?c5a ?d5a
          case c5a => (refine .inl ⟨by rfl, ?_⟩; intro w h; (try dsimp only at h); go_simp <;> with_reducible rfl)
          try simp only [pt]
          refine tk (i := 4) (v := ?v5b) rfl ?c5b ?d5b
          case c5b => (refine .inl ⟨by rfl, ?_⟩; intro w h; (try dsimp only at h); go_simp <;> with_reducible rfl)
          try simp only [pt]
          refine wpAnyH_ready (rs := [5]) (by kernel_rfl) (by simp) (AllReadyH.cons (o := ?ooa5) ?hia5 (fun K hK => ?hka5) AllReadyH.nil)
          rotate_left
          case hia5 => (simp only [gl]; rfl)
          (rw [if_pos (by rfl)]; go_simp; refine (inRange_no x 1 999 _ hA).mono ?_; rintro e w3 ⟨rfl, rfl⟩; go_wp2_with fail; refine hK.out _ _ (by assumption) (fun hHeld => ?_); clear hK K)
          try simp only [pt]
          refine tk (i := 6) (v := ?v5c) rfl ?c5c ?d5c
          case c5c => (refine .inl ⟨by rfl, ?_⟩; intro w h; (try dsimp only at h); go_simp <;> with_reducible rfl)
          try simp only [pt]
          refine tk (i := 7) (v := ?v5d) rfl ?c5d ?d5d
          case c5d => (refine .inl ⟨by rfl, ?_⟩; intro w h; (try dsimp only at h); go_simp <;> with_reducible rfl)
          try simp only [pt]
          refine tk (i := 8) rfl (.inr ⟨by rfl, rfl⟩) ?_
          try simp only [pt]
          refine tk (i := 9) rfl (.inr ⟨by rfl, rfl⟩) ?_
          try simp only [pt]
          refine tk (i := 10) rfl (.inr ⟨by rfl, rfl⟩) ?_
          try simp only [pt]
          refine tk (i := 11) rfl (.inr ⟨by rfl, rfl⟩) ?_
          try simp only [pt]
          refine tk (i := 12) rfl (.inr ⟨by rfl, rfl⟩) ?_
          try simp only [pt]
          refine tk (i := 13) rfl (.inr ⟨by rfl, rfl⟩) ?_
          try simp only [pt]
          refine tk (i := 14) rfl (.inr ⟨by rfl, rfl⟩) ?_
          try simp only [pt]
          refine tk (i := 15) (v := ?v65) rfl ?c65 ?d65
          case c65 => (refine .inl ⟨by rfl, ?_⟩; intro w h; (try dsimp only at h); go_simp <;> with_reducible rfl)
          try simp only [pt]
          refine tk (i := 16) (v := ?v66) rfl ?c66 ?d66
          case c66 => (refine .inl ⟨by rfl, ?_⟩; intro w h; (try dsimp only at h); go_simp <;> with_reducible rfl)
          try simp only [pt]
          refine tk (i := 17) rfl (.inr ⟨by rfl, rfl⟩) ?_
          try simp only [pt]
          refine tk (i := 18) rfl (.inr ⟨by rfl, rfl⟩) ?_
          try simp only [pt]
          refine tk (i := 19) rfl (.inr ⟨by rfl, rfl⟩) ?_
          try simp only [pt]
          refine tk (i := 20) rfl (.inr ⟨by rfl, rfl⟩) ?_
          try simp only [pt]
          refine tk (i := 21) rfl (.inr ⟨by rfl, rfl⟩) ?_
          try simp only [pt]
          refine tk (i := 22) rfl (.inr ⟨by rfl, rfl⟩) ?_
          try simp only [pt]
          refine tk (i := 23) rfl (.inr ⟨by rfl, rfl⟩) ?_
          try simp only [pt]
          refine tk (i := 24) (v := ?v6e) rfl ?c6e ?d6e
          case c6e => (refine .inl ⟨by rfl, ?_⟩; intro w h; (try dsimp only at h); go_simp <;> with_reducible rfl)
          try simp only [pt]
          refine tk (i := 25) (v := ?v6f) rfl ?c6f ?d6f
          case c6f => (refine .inl ⟨by rfl, ?_⟩; intro w h; (try dsimp only at h); go_simp <;> with_reducible rfl)
          try simp only [pt]
          refine tk (i := 26) rfl (.inr ⟨by rfl, rfl⟩) ?_
          try simp only [pt]
          refine tk (i := 27) rfl (.inr ⟨by rfl, rfl⟩) ?_
          try simp only [pt]
          refine tk (i := 28) rfl (.inr ⟨by rfl, rfl⟩) ?_
          try simp only [pt]
          refine tk (i := 29) rfl (.inr ⟨by rfl, rfl⟩) ?_
          try simp only [pt]
          refine tk (i := 30) rfl (.inr ⟨by rfl, rfl⟩) ?_
          try simp only [pt]
          refine tk (i := 31) rfl (.inr ⟨by rfl, rfl⟩) ?_
          try simp only [pt]
          refine tk (i := 32) rfl (.inr ⟨by rfl, rfl⟩) ?_
          try simp only [pt]
          refine tk (i := 33) rfl (.inr ⟨by rfl, rfl⟩) ?_
          try simp only [pt]
          refine tk (i := 34) rfl (.inr ⟨by rfl, rfl⟩) ?_
          try simp only [pt]
          refine tk (i := 35) rfl (.inr ⟨by rfl, rfl⟩) ?_
          try simp only [pt]
          refine tk (i := 36) rfl (.inr ⟨by rfl, rfl⟩) ?_
          try simp only [pt]
          refine tk (i := 37) rfl (.inr ⟨by rfl, rfl⟩) ?_
          try simp only [pt]
          refine tk (i := 38) rfl (.inr ⟨by rfl, rfl⟩) ?_
          try simp only [pt]
          refine tk (i := 39) rfl (.inr ⟨by rfl, rfl⟩) ?_
          try simp only [pt]
          refine tk (i := 40) rfl (.inr ⟨by rfl, rfl⟩) ?_
          try simp only [pt]
          refine tk (i := 41) rfl (.inr ⟨by rfl, rfl⟩) ?_
          try simp only [pt]
          refine tk (i := 42) (v := ?v80) rfl ?c80 ?d80
          case c80 => (refine .inl ⟨by rfl, ?_⟩; intro w h; (try dsimp only at h); go_simp <;> with_reducible rfl)
          try simp only [pt]
          refine wpAnyH_done (by kernel_rfl) ?_ _; go_wp2_with fail; go_ret; exact ⟨ret_bool HN.out.symm, HB.out.drew⟩
        · have h2 : 1 ≤ x ∧ x ≤ 999 := by omega
          clear hA
          cases hv : Wsh.vfB n d with
          | false =>
            have HV := Lib.hid hv; have HN : Hid (vlR hs = false) := vl_noF hlt (by rw [HG.out, hv]; rfl); clear hv; go_wp2_with fail; refine wp_region_held_drew (S := fun w' => w'.cell? ⟨g, off + k * 3, none⟩ = some (.int .i64 x) ∧ w'.cell? ⟨g, off + k * 3 + 1, none⟩ = some (.int .i64 n) ∧ w'.cell? ⟨g, off + k * 3 + 2, none⟩ = some (.int .i64 d)) (by kernel_rfl) ?_ (fun hHeld => ?_)
            · exact ⟨c0, c1, c2⟩
            refine tk (i := 0) (v := ?v81) rfl ?c81 ?d81
            case c81 => (refine .inl ⟨by rfl, ?_⟩; intro w h; (try dsimp only at h); go_simp <;> with_reducible rfl)
            try simp only [pt]
            refine tk (i := 1) (v := ?v82) rfl ?c82 ?d82
            case c82 => (refine .inl ⟨by rfl, ?_⟩; intro w h; (try dsimp only at h); go_simp <;> with_reducible rfl)
            try simp only [pt]
            refine tk (i := 2) (v := ?v83) rfl ?c83 ?d83
            case c83 => (refine .inl ⟨by rfl, ?_⟩; intro w h; (try dsimp only at h); go_simp <;> with_reducible rfl)
            try simp only [pt]
            refine tk (i := 3) (v := ?v84) rfl ?c84 ?d84
            case c84 => (refine .inl ⟨by rfl, ?_⟩; intro w h; (try dsimp only at h); go_simp <;> with_reducible rfl)
            try simp only [pt]
            refine tk (i := 4) (v := ?v85) rfl ?c85 ?d85
            case c85 => (refine .inl ⟨by rfl, ?_⟩; intro w h; (try dsimp only at h); go_simp <;> with_reducible rfl)
            try simp only [pt]
            refine wpAnyH_ready (rs := [5]) (by kernel_rfl) (by simp) (AllReadyH.cons (o := ?oob5) ?hib5 (fun K hK => ?hkb5) AllReadyH.nil)
            rotate_left
            case hib5 => (simp only [gl]; rfl)
            (rw [if_pos (by rfl)]; go_simp; refine (inRange_yes x 1 999 _ h2.1 h2.2).mono ?_; rintro e w3 ⟨rfl, rfl⟩; go_wp2_with fail; refine hK.out _ _ (by assumption) (fun hHeld => ?_); clear hK K)
            try simp only [pt]
            refine tk (i := 6) (v := ?v86) rfl ?c86 ?d86
            case c86 => (refine .inl ⟨by rfl, ?_⟩; intro w h; (try dsimp only at h); go_simp <;> with_reducible rfl)
            try simp only [pt]
            refine tk (i := 7) (v := ?v87) rfl ?c87 ?d87
            case c87 => (refine .inl ⟨by rfl, ?_⟩; intro w h; (try dsimp only at h); go_simp <;> with_reducible rfl)
            try simp only [pt]
            refine tk (i := 8) (v := ?v88) rfl ?c88 ?d88
            case c88 => (refine .inl ⟨by rfl, ?_⟩; intro w h; (try dsimp only at h); go_simp <;> with_reducible rfl)
            try simp only [pt]
            refine tk (i := 9) (v := ?v89) rfl ?c89 ?d89
            case c89 => (refine .inl ⟨by rfl, ?_⟩; intro w h; (try dsimp only at h); go_simp <;> with_reducible rfl)
            try simp only [pt]
            refine tk (i := 10) (v := ?v8a) rfl ?c8a ?d8a
            case c8a => (refine .inl ⟨by rfl, ?_⟩; intro w h; (try dsimp only at h); go_simp <;> with_reducible rfl)
            try simp only [pt]
            refine tk (i := 11) (v := ?v8b) rfl ?c8b ?d8b
            case c8b => (refine .inl ⟨by rfl, ?_⟩; intro w h; (try dsimp only at h); go_simp <;> with_reducible rfl)
            try simp only [pt]
            refine tk (i := 12) (v := ?v8c) rfl ?c8c ?d8c
            case c8c => (refine .inl ⟨by rfl, ?_⟩; intro w h; (try dsimp only at h); go_simp <;> with_reducible rfl)
            try simp only [pt]
            refine wpAnyH_ready (rs := [13]) (by kernel_rfl) (by simp) (AllReadyH.cons (o := ?oob13) ?hib13 (fun K hK => ?hkb13) AllReadyH.nil)
            rotate_left
            case hib13 => (simp only [gl]; rfl)
            (rw [if_pos (by rfl)]; go_simp; refine (vf_boolN HV.out _).mono ?_; rintro e w3 ⟨rfl, hb⟩; go_wp2_with fail; refine hK.out _ _ (keep3 hb (by assumption)) (fun hHeld => ?_); clear hK K)
            try simp only [pt]
            refine tk (i := 14) (v := ?v8d) rfl ?c8d ?d8d
            case c8d => (refine .inl ⟨by rfl, ?_⟩; intro w h; (try dsimp only at h); go_simp <;> with_reducible rfl)
            try simp only [pt]
            refine tk (i := 15) (v := ?v8e) rfl ?c8e ?d8e
            case c8e => (refine .inl ⟨by rfl, ?_⟩; intro w h; (try dsimp only at h); go_simp <;> with_reducible rfl)
            try simp only [pt]
            refine tk (i := 16) (v := ?v8f) rfl ?c8f ?d8f
            case c8f => (refine .inl ⟨by rfl, ?_⟩; intro w h; (try dsimp only at h); go_simp <;> with_reducible rfl)
            try simp only [pt]
            refine tk (i := 17) rfl (.inr ⟨by rfl, rfl⟩) ?_
            try simp only [pt]
            refine tk (i := 18) rfl (.inr ⟨by rfl, rfl⟩) ?_
            try simp only [pt]
            refine tk (i := 19) rfl (.inr ⟨by rfl, rfl⟩) ?_
            try simp only [pt]
            refine tk (i := 20) rfl (.inr ⟨by rfl, rfl⟩) ?_
            try simp only [pt]
            refine tk (i := 21) rfl (.inr ⟨by rfl, rfl⟩) ?_
            try simp only [pt]
            refine tk (i := 22) rfl (.inr ⟨by rfl, rfl⟩) ?_
            try simp only [pt]
            refine tk (i := 23) rfl (.inr ⟨by rfl, rfl⟩) ?_
            try simp only [pt]
            refine tk (i := 24) (v := ?v97) rfl ?c97 ?d97
            case c97 => (refine .inl ⟨by rfl, ?_⟩; intro w h; (try dsimp only at h); go_simp <;> with_reducible rfl)
            try simp only [pt]
            refine tk (i := 25) (v := ?v98) rfl ?c98 ?d98
            case c98 => (refine .inl ⟨by rfl, ?_⟩; intro w h; (try dsimp only at h); go_simp <;> with_reducible rfl)
            try simp only [pt]
            refine tk (i := 26) rfl (.inr ⟨by rfl, rfl⟩) ?_
            try simp only [pt]
            refine tk (i := 27) rfl (.inr ⟨by rfl, rfl⟩) ?_
            try simp only [pt]
            refine tk (i := 28) rfl (.inr ⟨by rfl, rfl⟩) ?_
            try simp only [pt]
            refine tk (i := 29) rfl (.inr ⟨by rfl, rfl⟩) ?_
            try simp only [pt]
            refine tk (i := 30) rfl (.inr ⟨by rfl, rfl⟩) ?_
            try simp only [pt]
            refine tk (i := 31) rfl (.inr ⟨by rfl, rfl⟩) ?_
            try simp only [pt]
            refine tk (i := 32) rfl (.inr ⟨by rfl, rfl⟩) ?_
            try simp only [pt]
            refine tk (i := 33) rfl (.inr ⟨by rfl, rfl⟩) ?_
            try simp only [pt]
            refine tk (i := 34) rfl (.inr ⟨by rfl, rfl⟩) ?_
            try simp only [pt]
            refine tk (i := 35) rfl (.inr ⟨by rfl, rfl⟩) ?_
            try simp only [pt]
            refine tk (i := 36) rfl (.inr ⟨by rfl, rfl⟩) ?_
            try simp only [pt]
            refine tk (i := 37) rfl (.inr ⟨by rfl, rfl⟩) ?_
            try simp only [pt]
            refine tk (i := 38) rfl (.inr ⟨by rfl, rfl⟩) ?_
            try simp only [pt]
            refine tk (i := 39) rfl (.inr ⟨by rfl, rfl⟩) ?_
            try simp only [pt]
            refine tk (i := 40) rfl (.inr ⟨by rfl, rfl⟩) ?_
            try simp only [pt]
            refine tk (i := 41) rfl (.inr ⟨by rfl, rfl⟩) ?_
            try simp only [pt]
            refine tk (i := 42) (v := ?va9) rfl ?ca9 ?da9
            case ca9 => (refine .inl ⟨by rfl, ?_⟩; intro w h; (try dsimp only at h); go_simp <;> with_reducible rfl)
            try simp only [pt]
            refine wpAnyH_done (by kernel_rfl) ?_ _; go_wp2_with fail; go_ret; exact ⟨ret_bool HN.out.symm, bel_tr HB.out.drew hb⟩
          | true =>
            have HV := Lib.hid hv
            by_cases hz : n = 0
            · have HN : Hid (vlR hs = false) := vl_noF hlt (by rw [HG.out, hz]; simp)
              have z0 : (n == 0) = true := by simpa using hz
              clear hv hz; go_wp2_with fail; refine wp_region_held_drew (S := fun w' => w'.cell? ⟨g, off + k * 3, none⟩ = some (.int .i64 x) ∧ w'.cell? ⟨g, off + k * 3 + 1, none⟩ = some (.int .i64 n) ∧ w'.cell? ⟨g, off + k * 3 + 2, none⟩ = some (.int .i64 d)) (by kernel_rfl) ?_ (fun hHeld => ?_)
              · exact ⟨c0, c1, c2⟩
              refine tk (i := 0) (v := ?vaa) rfl ?caa ?daa
              case caa => (refine .inl ⟨by rfl, ?_⟩; intro w h; (try dsimp only at h); go_simp <;> with_reducible rfl)
              try simp only [pt]
              refine tk (i := 1) (v := ?vab) rfl ?cab ?dab
              case cab => (refine .inl ⟨by rfl, ?_⟩; intro w h; (try dsimp only at h); go_simp <;> with_reducible rfl)
              try simp only [pt]
              refine tk (i := 2) (v := ?vac) rfl ?cac ?dac
              case cac => (refine .inl ⟨by rfl, ?_⟩; intro w h; (try dsimp only at h); go_simp <;> with_reducible rfl)
              try simp only [pt]
              refine tk (i := 3) (v := ?vad) rfl ?cad ?dad
              case cad => (refine .inl ⟨by rfl, ?_⟩; intro w h; (try dsimp only at h); go_simp <;> with_reducible rfl)
              try simp only [pt]
              refine tk (i := 4) (v := ?vae) rfl ?cae ?dae
              case cae => (refine .inl ⟨by rfl, ?_⟩; intro w h; (try dsimp only at h); go_simp <;> with_reducible rfl)
              try simp only [pt]
              refine wpAnyH_ready (rs := [5]) (by kernel_rfl) (by simp) (AllReadyH.cons (o := ?ooc5) ?hic5 (fun K hK => ?hkc5) AllReadyH.nil)
              rotate_left
              case hic5 => (simp only [gl]; rfl)
              (rw [if_pos (by rfl)]; go_simp; refine (inRange_yes x 1 999 _ h2.1 h2.2).mono ?_; rintro e w3 ⟨rfl, rfl⟩; go_wp2_with fail; refine hK.out _ _ (by assumption) (fun hHeld => ?_); clear hK K)
              try simp only [pt]
              refine tk (i := 6) (v := ?vaf) rfl ?caf ?daf
              case caf => (refine .inl ⟨by rfl, ?_⟩; intro w h; (try dsimp only at h); go_simp <;> with_reducible rfl)
              try simp only [pt]
              refine tk (i := 7) (v := ?vb0) rfl ?cb0 ?db0
              case cb0 => (refine .inl ⟨by rfl, ?_⟩; intro w h; (try dsimp only at h); go_simp <;> with_reducible rfl)
              try simp only [pt]
              refine tk (i := 8) (v := ?vb1) rfl ?cb1 ?db1
              case cb1 => (refine .inl ⟨by rfl, ?_⟩; intro w h; (try dsimp only at h); go_simp <;> with_reducible rfl)
              try simp only [pt]
              refine tk (i := 9) (v := ?vb2) rfl ?cb2 ?db2
              case cb2 => (refine .inl ⟨by rfl, ?_⟩; intro w h; (try dsimp only at h); go_simp <;> with_reducible rfl)
              try simp only [pt]
              refine tk (i := 10) (v := ?vb3) rfl ?cb3 ?db3
              case cb3 => (refine .inl ⟨by rfl, ?_⟩; intro w h; (try dsimp only at h); go_simp <;> with_reducible rfl)
              try simp only [pt]
              refine tk (i := 11) (v := ?vb4) rfl ?cb4 ?db4
              case cb4 => (refine .inl ⟨by rfl, ?_⟩; intro w h; (try dsimp only at h); go_simp <;> with_reducible rfl)
              try simp only [pt]
              refine tk (i := 12) (v := ?vb5) rfl ?cb5 ?db5
              case cb5 => (refine .inl ⟨by rfl, ?_⟩; intro w h; (try dsimp only at h); go_simp <;> with_reducible rfl)
              try simp only [pt]
              refine wpAnyH_ready (rs := [13]) (by kernel_rfl) (by simp) (AllReadyH.cons (o := ?ooc13) ?hic13 (fun K hK => ?hkc13) AllReadyH.nil)
              rotate_left
              case hic13 => (simp only [gl]; rfl)
              (rw [if_pos (by rfl)]; go_simp; refine (vf_boolY HV.out _).mono ?_; rintro e w3 ⟨rfl, hb⟩; go_wp2_with fail; refine hK.out _ _ (keep3 hb (by assumption)) (fun hHeld => ?_); clear hK K)
              try simp only [pt]
              refine tk (i := 14) (v := ?vb6) rfl ?cb6 ?db6
              case cb6 => (refine .inl ⟨by rfl, ?_⟩; intro w h; (try dsimp only at h); go_simp <;> with_reducible rfl)
              try simp only [pt]
              refine tk (i := 15) (v := ?vb7) rfl ?cb7 ?db7
              case cb7 => (refine .inl ⟨by rfl, ?_⟩; intro w h; (try dsimp only at h); go_simp <;> with_reducible rfl)
              try simp only [pt]
              refine tk (i := 16) (v := ?vb8) rfl ?cb8 ?db8
              case cb8 => (refine .inl ⟨by rfl, ?_⟩; intro w h; (try dsimp only at h); go_simp <;> with_reducible rfl)
              try simp only [pt]
              refine tk (i := 17) (v := ?vb9) rfl ?cb9 ?db9
              case cb9 => (refine .inl ⟨by rfl, ?_⟩; intro w h; (try dsimp only at h); go_simp <;> with_reducible rfl)
              try simp only [pt]
              refine tk (i := 18) (v := ?vba) rfl ?cba ?dba
              case cba => (refine .inl ⟨by rfl, ?_⟩; intro w h; (try dsimp only at h); go_simp <;> with_reducible rfl)
              try simp only [pt]
              refine tk (i := 19) (v := ?vbb) rfl ?cbb ?dbb
              case cbb => (refine .inl ⟨by rfl, ?_⟩; intro w h; (try dsimp only at h); go_simp <;> with_reducible rfl)
              try simp only [pt]
              refine tk (i := 20) (v := ?vbc) rfl ?cbc ?dbc
              case cbc => (refine .inl ⟨by rfl, ?_⟩; intro w h; (try dsimp only at h); go_simp <;> with_reducible rfl)
              try simp only [pt]
              refine tk (i := 21) (v := ?vbd) rfl ?cbd ?dbd
              case cbd => (refine .inl ⟨by rfl, ?_⟩; intro w h; (try dsimp only at h); go_simp <;> with_reducible rfl)
              try simp only [pt]
              refine tk (i := 22) (v := ?vbe) rfl ?cbe ?dbe
              case cbe => (refine .inl ⟨by rfl, ?_⟩; intro w h; (try dsimp only at h); go_simp <;> with_reducible rfl)
              try simp only [pt]
              refine tk (i := 23) (v := ?vbf) rfl ?cbf ?dbf
              case cbf => (refine .inl ⟨by rfl, ?_⟩; intro w h; (try dsimp only at h); go_simp <;> with_reducible rfl)
              try simp only [pt]
              refine tk (i := 24) (v := ?vc0) rfl ?cc0 ?dc0
              case cc0 => (refine .inl ⟨by rfl, ?_⟩; intro w h; (try dsimp only at h); go_simp <;> with_reducible rfl)
              try simp only [pt]
              refine tk (i := 25) (v := ?vc1) rfl ?cc1 ?dc1
              case cc1 => (refine .inl ⟨by rfl, ?_⟩; intro w h; (try dsimp only at h); go_simp <;> with_reducible rfl)
              try simp only [pt]
              refine tk (i := 26) rfl (.inr ⟨by rfl, rfl⟩) ?_
              try simp only [pt]
              refine tk (i := 27) rfl (.inr ⟨by rfl, rfl⟩) ?_
              try simp only [pt]
              refine tk (i := 28) rfl (.inr ⟨by rfl, rfl⟩) ?_
              try simp only [pt]
              refine tk (i := 29) rfl (.inr ⟨by rfl, rfl⟩) ?_
              try simp only [pt]
              refine tk (i := 30) rfl (.inr ⟨by rfl, rfl⟩) ?_
              try simp only [pt]
              refine tk (i := 31) rfl (.inr ⟨by rfl, rfl⟩) ?_
              try simp only [pt]
              refine tk (i := 32) rfl (.inr ⟨by rfl, rfl⟩) ?_
              try simp only [pt]
              refine tk (i := 33) rfl (.inr ⟨by rfl, rfl⟩) ?_
              try simp only [pt]
              refine tk (i := 34) rfl (.inr ⟨by rfl, rfl⟩) ?_
              try simp only [pt]
              refine tk (i := 35) rfl (.inr ⟨by rfl, rfl⟩) ?_
              try simp only [pt]
              refine tk (i := 36) rfl (.inr ⟨by rfl, rfl⟩) ?_
              try simp only [pt]
              refine tk (i := 37) rfl (.inr ⟨by rfl, rfl⟩) ?_
              try simp only [pt]
              refine tk (i := 38) rfl (.inr ⟨by rfl, rfl⟩) ?_
              try simp only [pt]
              refine tk (i := 39) rfl (.inr ⟨by rfl, rfl⟩) ?_
              try simp only [pt]
              refine tk (i := 40) rfl (.inr ⟨by rfl, rfl⟩) ?_
              try simp only [pt]
              refine tk (i := 41) rfl (.inr ⟨by rfl, rfl⟩) ?_
              try simp only [pt]
              refine tk (i := 42) (v := ?vd2) rfl ?cd2 ?dd2
              case cd2 => (refine .inl ⟨by rfl, ?_⟩; intro w h; (try dsimp only at h); go_simp <;> with_reducible rfl)
              try simp only [pt]
              refine wpAnyH_done (by kernel_rfl) ?_ _; go_wp2_with fail; go_ret; exact ⟨ret_bool HN.out.symm, bel_tr HB.out.drew hb⟩
            · have z0 : (n == 0) = false := by simpa using hz
              have HY : Hid (∀ j, j < k + 1 → okF hs j = true) := rng_more HF.out (by rw [HG.out, hv]; simpa using hz); clear hv hz
              cases k with
              | zero =>
                have HZ : Hid (∀ j, j < 0 + 1 → okA hs j = true) := rng_more HA.out (by rw [HO.out, ← HP.out]; show (decide ((0 : Int) < x) && decide (1 ≤ x) && decide (x ≤ 999)) = true; simp; omega)
                have i2 : (0 : Int) < (hs.length : Int) := by omega
                clear i0 i1; simp only [Nat.zero_mul, Nat.add_zero] at c0 c1 c2; go_wp2_with fail; refine wp_region_held_drew (S := fun w' => w'.cell? ⟨g, off, none⟩ = some (.int .i64 x) ∧ w'.cell? ⟨g, off + 1, none⟩ = some (.int .i64 n) ∧ w'.cell? ⟨g, off + 2, none⟩ = some (.int .i64 d)) (by kernel_rfl) ?_ (fun hHeld => ?_)
                · exact ⟨c0, c1, c2⟩
                refine tk (i := 0) (v := ?vd3) rfl ?cd3 ?dd3
                case cd3 => (refine .inl ⟨by rfl, ?_⟩; intro w h; (try dsimp only at h); go_simp <;> with_reducible rfl)
                try simp only [pt]
                refine tk (i := 1) (v := ?vd4) rfl ?cd4 ?dd4
                case cd4 => (refine .inl ⟨by rfl, ?_⟩; intro w h; (try dsimp only at h); go_simp <;> with_reducible rfl)
                try simp only [pt]
                refine tk (i := 2) (v := ?vd5) rfl ?cd5 ?dd5
                case cd5 => (refine .inl ⟨by rfl, ?_⟩; intro w h; (try dsimp only at h); go_simp <;> with_reducible rfl)
                try simp only [pt]
                refine tk (i := 3) (v := ?vd6) rfl ?cd6 ?dd6
                case cd6 => (refine .inl ⟨by rfl, ?_⟩; intro w h; (try dsimp only at h); go_simp <;> with_reducible rfl)
                try simp only [pt]
                refine tk (i := 4) (v := ?vd7) rfl ?cd7 ?dd7
                case cd7 => (refine .inl ⟨by rfl, ?_⟩; intro w h; (try dsimp only at h); go_simp <;> with_reducible rfl)
                try simp only [pt]
                refine wpAnyH_ready (rs := [5]) (by kernel_rfl) (by simp) (AllReadyH.cons (o := ?ood5) ?hid5 (fun K hK => ?hkd5) AllReadyH.nil)
                rotate_left
                case hid5 => (simp only [gl]; rfl)
                (rw [if_pos (by rfl)]; go_simp; refine (inRange_yes x 1 999 _ h2.1 h2.2).mono ?_; rintro e w3 ⟨rfl, rfl⟩; go_wp2_with fail; refine hK.out _ _ (by assumption) (fun hHeld => ?_); clear hK K)
                try simp only [pt]
                refine tk (i := 6) (v := ?vd8) rfl ?cd8 ?dd8
                case cd8 => (refine .inl ⟨by rfl, ?_⟩; intro w h; (try dsimp only at h); go_simp <;> with_reducible rfl)
                try simp only [pt]
                refine tk (i := 7) (v := ?vd9) rfl ?cd9 ?dd9
                case cd9 => (refine .inl ⟨by rfl, ?_⟩; intro w h; (try dsimp only at h); go_simp <;> with_reducible rfl)
                try simp only [pt]
                refine tk (i := 8) (v := ?vda) rfl ?cda ?dda
                case cda => (refine .inl ⟨by rfl, ?_⟩; intro w h; (try dsimp only at h); go_simp <;> with_reducible rfl)
                try simp only [pt]
                refine tk (i := 9) (v := ?vdb) rfl ?cdb ?ddb
                case cdb => (refine .inl ⟨by rfl, ?_⟩; intro w h; (try dsimp only at h); go_simp <;> with_reducible rfl)
                try simp only [pt]
                refine tk (i := 10) (v := ?vdc) rfl ?cdc ?ddc
                case cdc => (refine .inl ⟨by rfl, ?_⟩; intro w h; (try dsimp only at h); go_simp <;> with_reducible rfl)
                try simp only [pt]
                refine tk (i := 11) (v := ?vdd) rfl ?cdd ?ddd
                case cdd => (refine .inl ⟨by rfl, ?_⟩; intro w h; (try dsimp only at h); go_simp <;> with_reducible rfl)
                try simp only [pt]
                refine tk (i := 12) (v := ?vde) rfl ?cde ?dde
                case cde => (refine .inl ⟨by rfl, ?_⟩; intro w h; (try dsimp only at h); go_simp <;> with_reducible rfl)
                try simp only [pt]
                refine wpAnyH_ready (rs := [13]) (by kernel_rfl) (by simp) (AllReadyH.cons (o := ?ood13) ?hid13 (fun K hK => ?hkd13) AllReadyH.nil)
                rotate_left
                case hid13 => (simp only [gl]; rfl)
                (rw [if_pos (by rfl)]; go_simp; refine (vf_boolY HV.out _).mono ?_; rintro e w3 ⟨rfl, hb⟩; go_wp2_with fail; refine hK.out _ _ (keep3 hb (by assumption)) (fun hHeld => ?_); clear hK K)
                try simp only [pt]
                refine tk (i := 14) (v := ?vdf) rfl ?cdf ?ddf
                case cdf => (refine .inl ⟨by rfl, ?_⟩; intro w h; (try dsimp only at h); go_simp <;> with_reducible rfl)
                try simp only [pt]
                refine tk (i := 15) (v := ?ve0) rfl ?ce0 ?de0
                case ce0 => (refine .inl ⟨by rfl, ?_⟩; intro w h; (try dsimp only at h); go_simp <;> with_reducible rfl)
                try simp only [pt]
                refine tk (i := 16) (v := ?ve1) rfl ?ce1 ?de1
                case ce1 => (refine .inl ⟨by rfl, ?_⟩; intro w h; (try dsimp only at h); go_simp <;> with_reducible rfl)
                try simp only [pt]
                refine tk (i := 17) (v := ?ve2) rfl ?ce2 ?de2
                case ce2 => (refine .inl ⟨by rfl, ?_⟩; intro w h; (try dsimp only at h); go_simp <;> with_reducible rfl)
                try simp only [pt]
                refine tk (i := 18) (v := ?ve3) rfl ?ce3 ?de3
                case ce3 => (refine .inl ⟨by rfl, ?_⟩; intro w h; (try dsimp only at h); go_simp <;> with_reducible rfl)
                try simp only [pt]
                refine tk (i := 19) (v := ?ve4) rfl ?ce4 ?de4
                case ce4 => (refine .inl ⟨by rfl, ?_⟩; intro w h; (try dsimp only at h); go_simp <;> with_reducible rfl)
                try simp only [pt]
                refine tk (i := 20) (v := ?ve5) rfl ?ce5 ?de5
                case ce5 => (refine .inl ⟨by rfl, ?_⟩; intro w h; (try dsimp only at h); go_simp <;> with_reducible rfl)
                try simp only [pt]
                refine tk (i := 21) (v := ?ve6) rfl ?ce6 ?de6
                case ce6 => (refine .inl ⟨by rfl, ?_⟩; intro w h; (try dsimp only at h); go_simp <;> with_reducible rfl)
                try simp only [pt]
                refine tk (i := 22) (v := ?ve7) rfl ?ce7 ?de7
                case ce7 => (refine .inl ⟨by rfl, ?_⟩; intro w h; (try dsimp only at h); go_simp <;> with_reducible rfl)
                try simp only [pt]
                refine tk (i := 23) (v := ?ve8) rfl ?ce8 ?de8
                case ce8 => (refine .inl ⟨by rfl, ?_⟩; intro w h; (try dsimp only at h); go_simp <;> with_reducible rfl)
                try simp only [pt]
                refine tk (i := 24) (v := ?ve9) rfl ?ce9 ?de9
                case ce9 => (refine .inl ⟨by rfl, ?_⟩; intro w h; (try dsimp only at h); go_simp <;> with_reducible rfl)
                try simp only [pt]
                refine tk (i := 25) (v := ?vea) rfl ?cea ?dea
                case cea => (refine .inl ⟨by rfl, ?_⟩; intro w h; (try dsimp only at h); go_simp <;> with_reducible rfl)
                try simp only [pt]
                refine tk (i := 26) (v := ?veb) rfl ?ceb ?deb
                case ceb => (refine .inl ⟨by rfl, ?_⟩; intro w h; (try dsimp only at h); go_simp <;> with_reducible rfl)
                try simp only [pt]
                refine tk (i := 27) (v := ?vec) rfl ?cec ?dxec
                case cec => (refine .inl ⟨by rfl, ?_⟩; intro w h; (try dsimp only at h); go_simp <;> with_reducible rfl)
                try simp only [pt]
                refine tk (i := 28) (v := ?ved) rfl ?ced ?ded
                case ced => (refine .inl ⟨by rfl, ?_⟩; intro w h; (try dsimp only at h); go_simp <;> with_reducible rfl)
                try simp only [pt]
                refine tk (i := 29) rfl (.inr ⟨by rfl, rfl⟩) ?_
                try simp only [pt]
                refine tk (i := 30) rfl (.inr ⟨by rfl, rfl⟩) ?_
                try simp only [pt]
                refine tk (i := 31) rfl (.inr ⟨by rfl, rfl⟩) ?_
                try simp only [pt]
                refine tk (i := 32) rfl (.inr ⟨by rfl, rfl⟩) ?_
                try simp only [pt]
                refine tk (i := 33) rfl (.inr ⟨by rfl, rfl⟩) ?_
                try simp only [pt]
                refine tk (i := 34) rfl (.inr ⟨by rfl, rfl⟩) ?_
                try simp only [pt]
                refine tk (i := 35) rfl (.inr ⟨by rfl, rfl⟩) ?_
                try simp only [pt]
                refine tk (i := 36) rfl (.inr ⟨by rfl, rfl⟩) ?_
                try simp only [pt]
                refine tk (i := 37) rfl (.inr ⟨by rfl, rfl⟩) ?_
                try simp only [pt]
                refine tk (i := 38) rfl (.inr ⟨by rfl, rfl⟩) ?_
                try simp only [pt]
                refine tk (i := 39) rfl (.inr ⟨by rfl, rfl⟩) ?_
                try simp only [pt]
                refine tk (i := 40) rfl (.inr ⟨by rfl, rfl⟩) ?_
                try simp only [pt]
                refine tk (i := 41) (v := ?vfa) rfl ?cfa ?dfa
                case cfa => (refine .inl ⟨by rfl, ?_⟩; intro w h; (try dsimp only at h); go_simp <;> with_reducible rfl)
                try simp only [pt]
                refine tk (i := 42) (v := ?vfb) rfl ?cfb ?dfb
                case cfb => (refine .inl ⟨by rfl, ?_⟩; intro w h; (try dsimp only at h); go_simp <;> with_reducible rfl)
                try simp only [pt]
                refine wpAnyH_done (by kernel_rfl) ?_ _; go_wp2_with fail
                go_roundw
                case rel => exact ⟨1, rfl, by omega, HZ.out, HY.out, bel_tr HB.out.drew hb⟩
                case measure => simp [intOf]; omega
              | succ m =>
                have c3 : wr.cell? ⟨g, off + m * 3, none⟩ = some (.int .i64 p) := HD.out (by omega)
                have i2 : (0 : Int) ≤ (m : Int) := by omega
                have i3 : (0 : Int) ≤ (m : Int) + 1 := by omega
                have i4 : ((m : Int) + 1).toNat = m + 1 := by omega
                have i5 : (0 : Int) < (m : Int) + 1 := by omega
                have i8 : (m : Int) + 1 < (hs.length : Int) := by omega
                have i9 : (m : Int) < (hs.length : Int) := by omega
                clear i0 i1
                by_cases hp : x ≤ p
                · have hp' : decide (x ≤ p) = true := by simpa using hp
                  have HN : Hid (vlR hs = false) := vl_noA hlt (by rw [HO.out, decide_eq_false (by omega : ¬ p < x)]; rfl)
                  have i6 : IntKind.i64.wrap ((m : Int) + 1 - 1) = (m : Int) := by rw [IntWalk.i64_in _ (by omega)]; omega
                  have i7 : IntKind.i64.wrap (m : Int) = (m : Int) := IntWalk.i64_in _ (by omega); clear hp; go_wp2_with fail; refine wp_region_held_drew (S := fun w' => w'.cell? ⟨g, off + (m + 1) * 3, none⟩ = some (.int .i64 x) ∧ w'.cell? ⟨g, off + (m + 1) * 3 + 1, none⟩ = some (.int .i64 n) ∧ w'.cell? ⟨g, off + (m + 1) * 3 + 2, none⟩ = some (.int .i64 d) ∧ w'.cell? ⟨g, off + m * 3, none⟩ = some (.int .i64 p)) (by kernel_rfl) ?_ (fun hHeld => ?_)
                  · exact ⟨c0, c1, c2, c3⟩
                  refine tk (i := 0) (v := ?vfc) rfl ?cfc ?dfc
                  case cfc => (refine .inl ⟨by rfl, ?_⟩; intro w h; (try dsimp only at h); go_simp <;> with_reducible rfl)
                  try simp only [pt]
                  refine tk (i := 1) (v := ?vfd) rfl ?cfd ?dfd
                  case cfd => (refine .inl ⟨by rfl, ?_⟩; intro w h; (try dsimp only at h); go_simp <;> with_reducible rfl)
                  try simp only [pt]
                  refine tk (i := 2) (v := ?vfe) rfl ?cfe ?dfe
                  case cfe => (refine .inl ⟨by rfl, ?_⟩; intro w h; (try dsimp only at h); go_simp <;> with_reducible rfl)
                  try simp only [pt]
                  refine tk (i := 3) (v := ?vff) rfl ?cff ?dff
                  case cff => (refine .inl ⟨by rfl, ?_⟩; intro w h; (try dsimp only at h); go_simp <;> with_reducible rfl)
                  try simp only [pt]
                  refine tk (i := 4) (v := ?v100) rfl ?c100 ?d100
                  case c100 => (refine .inl ⟨by rfl, ?_⟩; intro w h; (try dsimp only at h); go_simp <;> with_reducible rfl)
                  try simp only [pt]
                  refine wpAnyH_ready (rs := [5]) (by kernel_rfl) (by simp) (AllReadyH.cons (o := ?ooe5) ?hie5 (fun K hK => ?hke5) AllReadyH.nil)
                  rotate_left
                  case hie5 => (simp only [gl]; rfl)
                  (rw [if_pos (by rfl)]; go_simp; refine (inRange_yes x 1 999 _ h2.1 h2.2).mono ?_; rintro e w3 ⟨rfl, rfl⟩; go_wp2_with fail; refine hK.out _ _ (by assumption) (fun hHeld => ?_); clear hK K)
                  try simp only [pt]
                  refine tk (i := 6) (v := ?v101) rfl ?c101 ?d101
                  case c101 => (refine .inl ⟨by rfl, ?_⟩; intro w h; (try dsimp only at h); go_simp <;> with_reducible rfl)
                  try simp only [pt]
                  refine tk (i := 7) (v := ?v102) rfl ?c102 ?d102
                  case c102 => (refine .inl ⟨by rfl, ?_⟩; intro w h; (try dsimp only at h); go_simp <;> with_reducible rfl)
                  try simp only [pt]
                  refine tk (i := 8) (v := ?v103) rfl ?c103 ?d103
                  case c103 => (refine .inl ⟨by rfl, ?_⟩; intro w h; (try dsimp only at h); go_simp <;> with_reducible rfl)
                  try simp only [pt]
                  refine tk (i := 9) (v := ?v104) rfl ?c104 ?d104
                  case c104 => (refine .inl ⟨by rfl, ?_⟩; intro w h; (try dsimp only at h); go_simp <;> with_reducible rfl)
                  try simp only [pt]
                  refine tk (i := 10) (v := ?v105) rfl ?c105 ?d105
                  case c105 => (refine .inl ⟨by rfl, ?_⟩; intro w h; (try dsimp only at h); go_simp <;> with_reducible rfl)
                  try simp only [pt]
                  refine tk (i := 11) (v := ?v106) rfl ?c106 ?d106
                  case c106 => (refine .inl ⟨by rfl, ?_⟩; intro w h; (try dsimp only at h); go_simp <;> with_reducible rfl)
                  try simp only [pt]
                  refine tk (i := 12) (v := ?v107) rfl ?c107 ?d107
                  case c107 => (refine .inl ⟨by rfl, ?_⟩; intro w h; (try dsimp only at h); go_simp <;> with_reducible rfl)
                  try simp only [pt]
                  refine wpAnyH_ready (rs := [13]) (by kernel_rfl) (by simp) (AllReadyH.cons (o := ?ooe13) ?hie13 (fun K hK => ?hke13) AllReadyH.nil)
                  rotate_left
                  case hie13 => (simp only [gl]; rfl)
                  (rw [if_pos (by rfl)]; go_simp; refine (vf_boolY HV.out _).mono ?_; rintro e w3 ⟨rfl, hb⟩; go_wp2_with fail; refine hK.out _ _ (keep4 hb (by assumption)) (fun hHeld => ?_); clear hK K)
                  try simp only [pt]
                  refine tk (i := 14) (v := ?v108) rfl ?c108 ?d108
                  case c108 => (refine .inl ⟨by rfl, ?_⟩; intro w h; (try dsimp only at h); go_simp <;> with_reducible rfl)
                  try simp only [pt]
                  refine tk (i := 15) (v := ?v109) rfl ?c109 ?d109
                  case c109 => (refine .inl ⟨by rfl, ?_⟩; intro w h; (try dsimp only at h); go_simp <;> with_reducible rfl)
                  try simp only [pt]
                  refine tk (i := 16) (v := ?v10a) rfl ?c10a ?d10a
                  case c10a => (refine .inl ⟨by rfl, ?_⟩; intro w h; (try dsimp only at h); go_simp <;> with_reducible rfl)
                  try simp only [pt]
                  refine tk (i := 17) (v := ?v10b) rfl ?c10b ?d10b
                  case c10b => (refine .inl ⟨by rfl, ?_⟩; intro w h; (try dsimp only at h); go_simp <;> with_reducible rfl)
                  try simp only [pt]
                  refine tk (i := 18) (v := ?v10c) rfl ?c10c ?d10c
                  case c10c => (refine .inl ⟨by rfl, ?_⟩; intro w h; (try dsimp only at h); go_simp <;> with_reducible rfl)
                  try simp only [pt]
                  refine tk (i := 19) (v := ?v10d) rfl ?c10d ?d10d
                  case c10d => (refine .inl ⟨by rfl, ?_⟩; intro w h; (try dsimp only at h); go_simp <;> with_reducible rfl)
                  try simp only [pt]
                  refine tk (i := 20) (v := ?v10e) rfl ?c10e ?d10e
                  case c10e => (refine .inl ⟨by rfl, ?_⟩; intro w h; (try dsimp only at h); go_simp <;> with_reducible rfl)
                  try simp only [pt]
                  refine tk (i := 21) (v := ?v10f) rfl ?c10f ?d10f
                  case c10f => (refine .inl ⟨by rfl, ?_⟩; intro w h; (try dsimp only at h); go_simp <;> with_reducible rfl)
                  try simp only [pt]
                  refine tk (i := 22) (v := ?v110) rfl ?c110 ?d110
                  case c110 => (refine .inl ⟨by rfl, ?_⟩; intro w h; (try dsimp only at h); go_simp <;> with_reducible rfl)
                  try simp only [pt]
                  refine tk (i := 23) (v := ?v111) rfl ?c111 ?d111
                  case c111 => (refine .inl ⟨by rfl, ?_⟩; intro w h; (try dsimp only at h); go_simp <;> with_reducible rfl)
                  try simp only [pt]
                  refine tk (i := 24) (v := ?v112) rfl ?c112 ?d112
                  case c112 => (refine .inl ⟨by rfl, ?_⟩; intro w h; (try dsimp only at h); go_simp <;> with_reducible rfl)
                  try simp only [pt]
                  refine tk (i := 25) (v := ?v113) rfl ?c113 ?d113
                  case c113 => (refine .inl ⟨by rfl, ?_⟩; intro w h; (try dsimp only at h); go_simp <;> with_reducible rfl)
                  try simp only [pt]
                  refine tk (i := 26) (v := ?v114) rfl ?c114 ?d114
                  case c114 => (refine .inl ⟨by rfl, ?_⟩; intro w h; (try dsimp only at h); go_simp <;> with_reducible rfl)
                  try simp only [pt]
                  refine tk (i := 27) (v := ?v115) rfl ?c115 ?d115
                  case c115 => (refine .inl ⟨by rfl, ?_⟩; intro w h; (try dsimp only at h); go_simp <;> with_reducible rfl)
                  try simp only [pt]
                  refine tk (i := 28) (v := ?v116) rfl ?c116 ?d116
                  case c116 => (refine .inl ⟨by rfl, ?_⟩; intro w h; (try dsimp only at h); go_simp <;> with_reducible rfl)
                  try simp only [pt]
                  refine tk (i := 29) (v := ?v117) rfl ?c117 ?d117
                  case c117 => (refine .inl ⟨by rfl, ?_⟩; intro w h; (try dsimp only at h); go_simp <;> with_reducible rfl)
                  try simp only [pt]
                  refine tk (i := 30) (v := ?v118) rfl ?c118 ?d118
                  case c118 => (refine .inl ⟨by rfl, ?_⟩; intro w h; (try dsimp only at h); go_simp <;> with_reducible rfl)
                  try simp only [pt]
                  refine tk (i := 31) (v := ?v119) rfl ?c119 ?d119
                  case c119 => (refine .inl ⟨by rfl, ?_⟩; intro w h; (try dsimp only at h); go_simp <;> with_reducible rfl)
                  try simp only [pt]
                  refine tk (i := 32) (v := ?v11a) rfl ?c11a ?d11a
                  case c11a => (refine .inl ⟨by rfl, ?_⟩; intro w h; (try dsimp only at h); go_simp <;> with_reducible rfl)
                  try simp only [pt]
                  refine tk (i := 33) (v := ?v11b) rfl ?c11b ?d11b
                  case c11b => (refine .inl ⟨by rfl, ?_⟩; intro w h; (try dsimp only at h); go_simp <;> with_reducible rfl)
                  try simp only [pt]
                  refine tk (i := 34) (v := ?v11c) rfl ?c11c ?d11c
                  case c11c => (refine .inl ⟨by rfl, ?_⟩; intro w h; (try dsimp only at h); go_simp <;> with_reducible rfl)
                  try simp only [pt]
                  refine tk (i := 35) (v := ?v11d) rfl ?c11d ?d11d
                  case c11d => (refine .inl ⟨by rfl, ?_⟩; intro w h; (try dsimp only at h); go_simp <;> with_reducible rfl)
                  try simp only [pt]
                  refine tk (i := 36) (v := ?v11e) rfl ?c11e ?d11e
                  case c11e => (refine .inl ⟨by rfl, ?_⟩; intro w h; (try dsimp only at h); go_simp <;> with_reducible rfl)
                  try simp only [pt]
                  refine tk (i := 37) (v := ?v11f) rfl ?c11f ?d11f
                  case c11f => (refine .inl ⟨by rfl, ?_⟩; intro w h; (try dsimp only at h); go_simp <;> with_reducible rfl)
                  try simp only [pt]
                  refine tk (i := 38) (v := ?v120) rfl ?c120 ?d120
                  case c120 => (refine .inl ⟨by rfl, ?_⟩; intro w h; (try dsimp only at h); go_simp <;> with_reducible rfl)
                  try simp only [pt]
                  refine tk (i := 39) (v := ?v121) rfl ?c121 ?d121
                  case c121 => (refine .inl ⟨by rfl, ?_⟩; intro w h; (try dsimp only at h); go_simp <;> with_reducible rfl)
                  try simp only [pt]
                  refine tk (i := 40) (v := ?v122) rfl ?c122 ?d122
                  case c122 => (refine .inl ⟨by rfl, ?_⟩; intro w h; (try dsimp only at h); go_simp <;> with_reducible rfl)
                  try simp only [pt]
                  refine tk (i := 41) (v := ?v123) rfl ?c123 ?d123
                  case c123 => (refine .inl ⟨by rfl, ?_⟩; intro w h; (try dsimp only at h); go_simp <;> with_reducible rfl)
                  try simp only [pt]
                  refine tk (i := 42) (v := ?v124) rfl ?c124 ?d124
                  case c124 => (refine .inl ⟨by rfl, ?_⟩; intro w h; (try dsimp only at h); go_simp <;> with_reducible rfl)
                  try simp only [pt]
                  refine wpAnyH_done (by kernel_rfl) ?_ _; go_wp2_with fail; go_ret; exact ⟨ret_bool HN.out.symm, bel_tr HB.out.drew hb⟩
                · have hp' : decide (x ≤ p) = false := by simpa using hp
                  have HZ : Hid (∀ j, j < m + 1 + 1 → okA hs j = true) := rng_more HA.out (by rw [HO.out]; simp; omega)
                  have i6 : IntKind.i64.wrap ((m : Int) + 1 - 1) = (m : Int) := by rw [IntWalk.i64_in _ (by omega)]; omega
                  have i7 : IntKind.i64.wrap (m : Int) = (m : Int) := IntWalk.i64_in _ (by omega); clear hp; go_wp2_with fail; refine wp_region_held_drew (S := fun w' => w'.cell? ⟨g, off + (m + 1) * 3, none⟩ = some (.int .i64 x) ∧ w'.cell? ⟨g, off + (m + 1) * 3 + 1, none⟩ = some (.int .i64 n) ∧ w'.cell? ⟨g, off + (m + 1) * 3 + 2, none⟩ = some (.int .i64 d) ∧ w'.cell? ⟨g, off + m * 3, none⟩ = some (.int .i64 p)) (by kernel_rfl) ?_ (fun hHeld => ?_)
                  · exact ⟨c0, c1, c2, c3⟩
                  refine tk (i := 0) (v := ?v125) rfl ?c125 ?d125
                  case c125 => (refine .inl ⟨by rfl, ?_⟩; intro w h; (try dsimp only at h); go_simp <;> with_reducible rfl)
                  try simp only [pt]
                  refine tk (i := 1) (v := ?v126) rfl ?c126 ?d126
                  case c126 => (refine .inl ⟨by rfl, ?_⟩; intro w h; (try dsimp only at h); go_simp <;> with_reducible rfl)
                  try simp only [pt]
                  refine tk (i := 2) (v := ?v127) rfl ?c127 ?d127
                  case c127 => (refine .inl ⟨by rfl, ?_⟩; intro w h; (try dsimp only at h); go_simp <;> with_reducible rfl)
                  try simp only [pt]
                  refine tk (i := 3) (v := ?v128) rfl ?c128 ?d128
                  case c128 => (refine .inl ⟨by rfl, ?_⟩; intro w h; (try dsimp only at h); go_simp <;> with_reducible rfl)
                  try simp only [pt]
                  refine tk (i := 4) (v := ?v129) rfl ?c129 ?d129
                  case c129 => (refine .inl ⟨by rfl, ?_⟩; intro w h; (try dsimp only at h); go_simp <;> with_reducible rfl)
                  try simp only [pt]
                  refine wpAnyH_ready (rs := [5]) (by kernel_rfl) (by simp) (AllReadyH.cons (o := ?oof5) ?hif5 (fun K hK => ?hkf5) AllReadyH.nil)
                  rotate_left
                  case hif5 => (simp only [gl]; rfl)
                  (rw [if_pos (by rfl)]; go_simp; refine (inRange_yes x 1 999 _ h2.1 h2.2).mono ?_; rintro e w3 ⟨rfl, rfl⟩; go_wp2_with fail; refine hK.out _ _ (by assumption) (fun hHeld => ?_); clear hK K)
                  try simp only [pt]
                  refine tk (i := 6) (v := ?v12a) rfl ?c12a ?d12a
                  case c12a => (refine .inl ⟨by rfl, ?_⟩; intro w h; (try dsimp only at h); go_simp <;> with_reducible rfl)
                  try simp only [pt]
                  refine tk (i := 7) (v := ?v12b) rfl ?c12b ?d12b
                  case c12b => (refine .inl ⟨by rfl, ?_⟩; intro w h; (try dsimp only at h); go_simp <;> with_reducible rfl)
                  try simp only [pt]
                  refine tk (i := 8) (v := ?v12c) rfl ?c12c ?d12c
                  case c12c => (refine .inl ⟨by rfl, ?_⟩; intro w h; (try dsimp only at h); go_simp <;> with_reducible rfl)
                  try simp only [pt]
                  refine tk (i := 9) (v := ?v12d) rfl ?c12d ?d12d
                  case c12d => (refine .inl ⟨by rfl, ?_⟩; intro w h; (try dsimp only at h); go_simp <;> with_reducible rfl)
                  try simp only [pt]
                  refine tk (i := 10) (v := ?v12e) rfl ?c12e ?d12e
                  case c12e => (refine .inl ⟨by rfl, ?_⟩; intro w h; (try dsimp only at h); go_simp <;> with_reducible rfl)
                  try simp only [pt]
                  refine tk (i := 11) (v := ?v12f) rfl ?c12f ?d12f
                  case c12f => (refine .inl ⟨by rfl, ?_⟩; intro w h; (try dsimp only at h); go_simp <;> with_reducible rfl)
                  try simp only [pt]
                  refine tk (i := 12) (v := ?v130) rfl ?c130 ?d130
                  case c130 => (refine .inl ⟨by rfl, ?_⟩; intro w h; (try dsimp only at h); go_simp <;> with_reducible rfl)
                  try simp only [pt]
                  refine wpAnyH_ready (rs := [13]) (by kernel_rfl) (by simp) (AllReadyH.cons (o := ?oof13) ?hif13 (fun K hK => ?hkf13) AllReadyH.nil)
                  rotate_left
                  case hif13 => (simp only [gl]; rfl)
                  (rw [if_pos (by rfl)]; go_simp; refine (vf_boolY HV.out _).mono ?_; rintro e w3 ⟨rfl, hb⟩; go_wp2_with fail; refine hK.out _ _ (keep4 hb (by assumption)) (fun hHeld => ?_); clear hK K)
                  try simp only [pt]
                  refine tk (i := 14) (v := ?v131) rfl ?c131 ?d131
                  case c131 => (refine .inl ⟨by rfl, ?_⟩; intro w h; (try dsimp only at h); go_simp <;> with_reducible rfl)
                  try simp only [pt]
                  refine tk (i := 15) (v := ?v132) rfl ?c132 ?d132
                  case c132 => (refine .inl ⟨by rfl, ?_⟩; intro w h; (try dsimp only at h); go_simp <;> with_reducible rfl)
                  try simp only [pt]
                  refine tk (i := 16) (v := ?v133) rfl ?c133 ?d133
                  case c133 => (refine .inl ⟨by rfl, ?_⟩; intro w h; (try dsimp only at h); go_simp <;> with_reducible rfl)
                  try simp only [pt]
                  refine tk (i := 17) (v := ?v134) rfl ?c134 ?d134
                  case c134 => (refine .inl ⟨by rfl, ?_⟩; intro w h; (try dsimp only at h); go_simp <;> with_reducible rfl)
                  try simp only [pt]
                  refine tk (i := 18) (v := ?v135) rfl ?c135 ?d135
                  case c135 => (refine .inl ⟨by rfl, ?_⟩; intro w h; (try dsimp only at h); go_simp <;> with_reducible rfl)
                  try simp only [pt]
                  refine tk (i := 19) (v := ?v136) rfl ?c136 ?d136
                  case c136 => (refine .inl ⟨by rfl, ?_⟩; intro w h; (try dsimp only at h); go_simp <;> with_reducible rfl)
                  try simp only [pt]
                  refine tk (i := 20) (v := ?v137) rfl ?c137 ?d137
                  case c137 => (refine .inl ⟨by rfl, ?_⟩; intro w h; (try dsimp only at h); go_simp <;> with_reducible rfl)
                  try simp only [pt]
                  refine tk (i := 21) (v := ?v138) rfl ?c138 ?d138
                  case c138 => (refine .inl ⟨by rfl, ?_⟩; intro w h; (try dsimp only at h); go_simp <;> with_reducible rfl)
                  try simp only [pt]
                  refine tk (i := 22) (v := ?v139) rfl ?c139 ?d139
                  case c139 => (refine .inl ⟨by rfl, ?_⟩; intro w h; (try dsimp only at h); go_simp <;> with_reducible rfl)
                  try simp only [pt]
                  refine tk (i := 23) (v := ?v13a) rfl ?c13a ?d13a
                  case c13a => (refine .inl ⟨by rfl, ?_⟩; intro w h; (try dsimp only at h); go_simp <;> with_reducible rfl)
                  try simp only [pt]
                  refine tk (i := 24) (v := ?v13b) rfl ?c13b ?d13b
                  case c13b => (refine .inl ⟨by rfl, ?_⟩; intro w h; (try dsimp only at h); go_simp <;> with_reducible rfl)
                  try simp only [pt]
                  refine tk (i := 25) (v := ?v13c) rfl ?c13c ?d13c
                  case c13c => (refine .inl ⟨by rfl, ?_⟩; intro w h; (try dsimp only at h); go_simp <;> with_reducible rfl)
                  try simp only [pt]
                  refine tk (i := 26) (v := ?v13d) rfl ?c13d ?d13d
                  case c13d => (refine .inl ⟨by rfl, ?_⟩; intro w h; (try dsimp only at h); go_simp <;> with_reducible rfl)
                  try simp only [pt]
                  refine tk (i := 27) (v := ?v13e) rfl ?c13e ?d13e
                  case c13e => (refine .inl ⟨by rfl, ?_⟩; intro w h; (try dsimp only at h); go_simp <;> with_reducible rfl)
                  try simp only [pt]
                  refine tk (i := 28) (v := ?v13f) rfl ?c13f ?d13f
                  case c13f => (refine .inl ⟨by rfl, ?_⟩; intro w h; (try dsimp only at h); go_simp <;> with_reducible rfl)
                  try simp only [pt]
                  refine tk (i := 29) (v := ?v140) rfl ?c140 ?d140
                  case c140 => (refine .inl ⟨by rfl, ?_⟩; intro w h; (try dsimp only at h); go_simp <;> with_reducible rfl)
                  try simp only [pt]
                  refine tk (i := 30) (v := ?v141) rfl ?c141 ?d141
                  case c141 => (refine .inl ⟨by rfl, ?_⟩; intro w h; (try dsimp only at h); go_simp <;> with_reducible rfl)
                  try simp only [pt]
                  refine tk (i := 31) (v := ?v142) rfl ?c142 ?d142
                  case c142 => (refine .inl ⟨by rfl, ?_⟩; intro w h; (try dsimp only at h); go_simp <;> with_reducible rfl)
                  try simp only [pt]
                  refine tk (i := 32) (v := ?v143) rfl ?c143 ?d143
                  case c143 => (refine .inl ⟨by rfl, ?_⟩; intro w h; (try dsimp only at h); go_simp <;> with_reducible rfl)
                  try simp only [pt]
                  refine tk (i := 33) (v := ?v144) rfl ?c144 ?d144
                  case c144 => (refine .inl ⟨by rfl, ?_⟩; intro w h; (try dsimp only at h); go_simp <;> with_reducible rfl)
                  try simp only [pt]
                  refine tk (i := 34) (v := ?v145) rfl ?c145 ?d145
                  case c145 => (refine .inl ⟨by rfl, ?_⟩; intro w h; (try dsimp only at h); go_simp <;> with_reducible rfl)
                  try simp only [pt]
                  refine tk (i := 35) (v := ?v146) rfl ?c146 ?d146
                  case c146 => (refine .inl ⟨by rfl, ?_⟩; intro w h; (try dsimp only at h); go_simp <;> with_reducible rfl)
                  try simp only [pt]
                  refine tk (i := 36) (v := ?v147) rfl ?c147 ?d147
                  case c147 => (refine .inl ⟨by rfl, ?_⟩; intro w h; (try dsimp only at h); go_simp <;> with_reducible rfl)
                  try simp only [pt]
                  refine tk (i := 37) (v := ?v148) rfl ?c148 ?d148
                  case c148 => (refine .inl ⟨by rfl, ?_⟩; intro w h; (try dsimp only at h); go_simp <;> with_reducible rfl)
                  try simp only [pt]
                  refine tk (i := 38) (v := ?v149) rfl ?c149 ?d149
                  case c149 => (refine .inl ⟨by rfl, ?_⟩; intro w h; (try dsimp only at h); go_simp <;> with_reducible rfl)
                  try simp only [pt]
                  refine tk (i := 39) (v := ?v14a) rfl ?c14a ?d14a
                  case c14a => (refine .inl ⟨by rfl, ?_⟩; intro w h; (try dsimp only at h); go_simp <;> with_reducible rfl)
                  try simp only [pt]
                  refine tk (i := 40) (v := ?v14b) rfl ?c14b ?d14b
                  case c14b => (refine .inl ⟨by rfl, ?_⟩; intro w h; (try dsimp only at h); go_simp <;> with_reducible rfl)
                  try simp only [pt]
                  refine tk (i := 41) (v := ?v14c) rfl ?c14c ?d14c
                  case c14c => (refine .inl ⟨by rfl, ?_⟩; intro w h; (try dsimp only at h); go_simp <;> with_reducible rfl)
                  try simp only [pt]
                  refine tk (i := 42) (v := ?v14d) rfl ?c14d ?d14d
                  case c14d => (refine .inl ⟨by rfl, ?_⟩; intro w h; (try dsimp only at h); go_simp <;> with_reducible rfl)
                  try simp only [pt]
                  refine wpAnyH_done (by kernel_rfl) ?_ _; go_wp2_with fail
                  go_roundw
                  case rel => exact ⟨m + 1 + 1, by go_num, by omega, HZ.out, HY.out, bel_tr HB.out.drew hb⟩
                  case measure => simp [intOf]; omega
      · obtain rfl : hs.length = k := by omega
        have hs0 := ssumOf (some ⟨g, off, none⟩) cap hs wr (hs_below H0.out hB) hn (rng_yes HF.out); have hw0 := vl_all (rng_yes HA.out) (rng_yes HF.out); have H1 := Lib.hid hs0; have H2 := Lib.hid hw0; clear hs0 hw0
        cases hq : allQ hs with
        | false =>
          have hsum : Calls Tryz.prog 88 #[.slice (some ⟨g, off, none⟩) hs.length cap] wr fun e w' => e = .returned (.tuple #[.agg #[.int .i64 0, .int .i64 0], .bool false]) ∧ Below wr.heap.size wr w' := by
            have := H1.out; unfold SumV at this; rw [hq] at this; exact this
          have HN : Hid (vlR hs = false) := by have := H2.out; rw [hq] at this; exact this
          clear hq; go_wp2_with fail; refine hsum.mono ?_; rintro e w1 ⟨rfl, hb⟩; have hB1 := bel_tr hB hb; go_wp2_with fail; go_ret; exact ⟨ret_bool HN.out.symm, hB1.alloc hB1.size _⟩
        | true =>
          obtain ⟨x, hx⟩ : ∃ x, x = (sumQ hs hs.length).num := ⟨_, rfl⟩
          obtain ⟨y, hy⟩ : ∃ y, y = ((sumQ hs hs.length).den : Int) := ⟨_, rfl⟩
          have hsum : Calls Tryz.prog 88 #[.slice (some ⟨g, off, none⟩) hs.length cap] wr fun e w' => e = .returned (.tuple #[.agg #[.int .i64 x, .int .i64 y], .bool true]) ∧ Below wr.heap.size wr w' := by
            have := H1.out; unfold SumV at this; rw [hq] at this; rw [hx, hy]; exact this
          have H3 : Hid (x = 1 → y = 1 → decide ((hs.length : Int) ≤ 12) = vlR hs) := fun e1 e2 => by
            have := H2.out; rw [hq, decide_eq_true (one_iff.2 (by rw [← hx, ← hy, e1, e2]))] at this; rw [this, Bool.true_and, Bool.true_and, decide_eq_decide]; omega
          have H4 : Hid ((¬ x = 1 ∨ ¬ y = 1) → false = vlR hs) := fun e => by
            have := H2.out; rw [hq, decide_eq_false (fun c => by rw [c] at hx hy; rcases e with e | e; exact e hx; exact e hy)] at this; rw [this]; rfl
          clear hq hx hy; go_wp2_with fail; refine hsum.mono ?_; rintro e w1 ⟨rfl, hb⟩; have hB1 := bel_tr hB hb; go_wp2_with fail
          all_goals (
            go_ret
            first
            | exact ⟨ret_bool (H3.out (by assumption) (by assumption)), hB1.alloc hB1.size _⟩
            | exact ⟨ret_bool (H3.out rfl rfl), hB1.alloc hB1.size _⟩
            | exact ⟨ret_bool (H4.out (.inl (by assumption))), hB1.alloc hB1.size _⟩
            | exact ⟨ret_bool (H4.out (.inr (by assumption))), hB1.alloc hB1.size _⟩)
end Go.Proofs.YthagafkjlecagabGreat
