/- spec.validLedger and spec.ValidLedger. Condition: at most 1048576 holdings. -/
import Derived.Test.YtaehemmjemhgpaaPCG0
import Derived.Test.YtaehemmjemhgpaaPCG1
import Derived.IntWalk
set_option maxRecDepth 100000
set_option maxHeartbeats 16000000
namespace Go.Proofs.Ytaehemmjemhgpaa
open Go.RowKit
set_option linter.unusedSimpArgs false

theorem keep3 {w w' : World} {p q r : Addr} {u v x : Value} (hb : Below w.heap.size w w') (h : w.cell? p = some u ∧ w.cell? q = some v ∧ w.cell? r = some x) : w'.cell? p = some u ∧ w'.cell? q = some v ∧ w'.cell? r = some x := ⟨jje hb h.1, jje hb h.2.1, jje hb h.2.2⟩
def LoopRel (w : World) (hs : List Hd) (k : Nat) (wr : World) : Prop := k ≤ hs.length ∧ (∀ j, j < k → okA hs j = true) ∧ (∀ j, j < k → okF hs j = true) ∧ Below w.heap.size w wr

theorem svl (a : Option Addr) (cap : Nat) (hs : List Hd) (w : World) (h : IsHs w a hs) (hn : hs.length ≤ 1048576) :
    Calls Try.prog 56 #[.slice a hs.length cap] w fun e w' => e = .returned (.bool (vlR hs)) ∧ Below w.heap.size w w' := by
  have H0 := Lib.hid h
  rcases h with rfl | ⟨g, off, rfl, hc⟩
  · have hs0 : Calls Try.prog 113 #[.slice a 0 cap] w fun e w' => e = .returned (.tuple #[.agg #[.int .i64 0, .int .i64 1], .bool true]) ∧ Below w.heap.size w w' := ssumOf a cap [] w H0.out (by simp) rfl
    go_enter Try.func56, Try.ntmps56; go_wp2_with fail; refine wp_loop_rounds 1 ?_; rw [rounds_succ]; go_wp2_with fail; refine hs0.mono ?_; rintro e w1 ⟨rfl, hb⟩; go_wp2_with fail; go_ret; exact ⟨rfl, hb.alloc hb.size _⟩
  · have HC := Lib.hid hc
    clear hc; go_enter Try.func56, Try.ntmps56; go_wp2_with fail
    go_loopw [3] (fun i wr => ∃ k : Nat, i = .int .i64 k ∧ LoopRel w hs k wr) (fun i _ => hs.length - (intOf i).toNat)
    case atStart => exact ⟨0, rfl, Nat.zero_le _, fun j hj => by omega, fun j hj => by omega, by go_grown⟩
    case round =>
      obtain ⟨k, rfl, hk, ha, hf, hB⟩ := hrel; have HA := Lib.hid ha; have HF := Lib.hid hf; clear ha hf
      by_cases hlt : k < hs.length
      · obtain ⟨c0, c1, c2⟩ := jjg HC.out hB hlt
        have hok := okA_def hs k; have hof : okF hs k = (Wsh.vfB (hs.getD k hd0).2.1 (hs.getD k hd0).2.2 && decide ((hs.getD k hd0).2.1 ≠ 0)) := rfl
        obtain ⟨p, d0, hp⟩ : ∃ p, (0 < k → wr.cell? ⟨g, off + (k - 1) * 3, none⟩ = some (.int .i64 p)) ∧ prevO hs k = p := by
          refine ⟨_, fun h0 => ?_, rfl⟩; unfold prevO; rw [if_neg (by omega)]; exact (jjg HC.out hB (k := k - 1) (by omega)).1
        generalize hs.getD k hd0 = hh at c0 c1 c2 hok hof; obtain ⟨x, n, d⟩ := hh; rw [hp] at hok; dsimp only at c0 c1 c2 hok hof; have HO := Lib.hid hok; have HG := Lib.hid hof; have HB := Lib.hid hB; have HD := Lib.hid d0; have HP := Lib.hid hp; clear hok hof hB d0 hp
        have i0 : (0 : Int) ≤ (k : Int) := by omega
        have i1 : (k : Int) < (hs.length : Int) := by omega
        by_cases hA : x < 1 ∨ 999 < x
        · have HN : Hid (vlR hs = false) := vl_noA hlt (by rw [HO.out]; simp; omega)
          go_wp2_with fail; refine wp_region_held_drew (S := fun w' => w'.cell? ⟨g, off + k * 3, none⟩ = some (.int .i64 x) ∧ w'.cell? ⟨g, off + k * 3 + 1, none⟩ = some (.int .i64 n) ∧ w'.cell? ⟨g, off + k * 3 + 2, none⟩ = some (.int .i64 d)) (by kernel_rfl) ?_ (fun hHeld => ?_)
          · exact ⟨c0, c1, c2⟩
          refine tk (i := 0) (v := ?v74) rfl ?c74 ?d_74
          case c74 => (refine .inl ⟨by rfl, ?_⟩; intro w h; (try dsimp only at h); go_simp <;> with_reducible rfl)
          try simp only [pt]
          refine tk (i := 1) (v := ?v75) rfl ?c75 ?d_75
          case c75 => (refine .inl ⟨by rfl, ?_⟩; intro w h; (try dsimp only at h); go_simp <;> with_reducible rfl)
          try simp only [pt]
          refine tk (i := 2) (v := ?v76) rfl ?c76 ?d_76
          case c76 => (refine .inl ⟨by rfl, ?_⟩; intro w h; (try dsimp only at h); go_simp <;> with_reducible rfl)
          try simp only [pt]
          refine tk (i := 3) (v := ?v77) rfl ?c77 ?d_77
          case c77 => (refine .inl ⟨by rfl, ?_⟩; intro w h; (try dsimp only at h); go_simp <;> with_reducible rfl)
          try simp only [pt]
          refine tk (i := 4) (v := ?v78) rfl ?c78 ?d_78
          case c78 => (refine .inl ⟨by rfl, ?_⟩; intro w h; (try dsimp only at h); go_simp <;> with_reducible rfl)
          try simp only [pt]
          refine wpAnyH_ready (rs := [5]) (by kernel_rfl) (by simp) (AllReadyH.cons (o := ?ooa5) ?hia5 (fun K hK => ?hka5) AllReadyH.nil)
          rotate_left
          case hia5 => (simp only [List.getElem?_toArray, List.getElem?_cons_succ, List.getElem?_cons_zero]; rfl)
          (rw [if_pos (by rfl)]; go_simp; refine (jz6 x 1 999 _ hA).mono ?_; rintro e w3 ⟨rfl, rfl⟩; go_wp2_with fail; refine hK.out _ _ (by assumption) (fun hHeld => ?_); clear hK K)
          try simp only [pt]
          refine tk (i := 6) (v := ?v79) rfl ?c79 ?d_79
          case c79 => (refine .inl ⟨by rfl, ?_⟩; intro w h; (try dsimp only at h); go_simp <;> with_reducible rfl)
          try simp only [pt]
          refine tk (i := 7) (v := ?v7a) rfl ?c7a ?d_7a
          case c7a => (refine .inl ⟨by rfl, ?_⟩; intro w h; (try dsimp only at h); go_simp <;> with_reducible rfl)
          try simp only [pt]
          refine tk (i := 8) rfl (.inr ⟨by rfl, rfl⟩) ?_
          try simp only [pt]
          refine tk (i := 9) rfl (.inr ⟨by rfl, rfl⟩) ?_
          try simp only [pt]
          refine tk (i := 10) rfl (.inr ⟨by rfl, rfl⟩) ?_
          try simp only [pt]
          refine tk (i := 11) rfl (.inr ⟨by rfl, rfl⟩) ?_
          try simp only [pt]
          refine tk (i := 12) rfl (.inr ⟨by rfl, rfl⟩) ?_
          try simp only [pt]
          refine tk (i := 13) rfl (.inr ⟨by rfl, rfl⟩) ?_
          try simp only [pt]
          refine tk (i := 14) rfl (.inr ⟨by rfl, rfl⟩) ?_
          try simp only [pt]
          refine tk (i := 15) (v := ?v82) rfl ?c82 ?d_82
          case c82 => (refine .inl ⟨by rfl, ?_⟩; intro w h; (try dsimp only at h); go_simp <;> with_reducible rfl)
          try simp only [pt]
          refine tk (i := 16) (v := ?v83) rfl ?c83 ?d_83
          case c83 => (refine .inl ⟨by rfl, ?_⟩; intro w h; (try dsimp only at h); go_simp <;> with_reducible rfl)
          try simp only [pt]
          refine tk (i := 17) rfl (.inr ⟨by rfl, rfl⟩) ?_
          try simp only [pt]
          refine tk (i := 18) rfl (.inr ⟨by rfl, rfl⟩) ?_
          try simp only [pt]
          refine tk (i := 19) rfl (.inr ⟨by rfl, rfl⟩) ?_
          try simp only [pt]
          refine tk (i := 20) rfl (.inr ⟨by rfl, rfl⟩) ?_
          try simp only [pt]
          refine tk (i := 21) rfl (.inr ⟨by rfl, rfl⟩) ?_
          try simp only [pt]
          refine tk (i := 22) rfl (.inr ⟨by rfl, rfl⟩) ?_
          try simp only [pt]
          refine tk (i := 23) rfl (.inr ⟨by rfl, rfl⟩) ?_
          try simp only [pt]
          refine tk (i := 24) (v := ?v8b) rfl ?c8b ?d_8b
          case c8b => (refine .inl ⟨by rfl, ?_⟩; intro w h; (try dsimp only at h); go_simp <;> with_reducible rfl)
          try simp only [pt]
          refine tk (i := 25) (v := ?v8c) rfl ?c8c ?d_8c
          case c8c => (refine .inl ⟨by rfl, ?_⟩; intro w h; (try dsimp only at h); go_simp <;> with_reducible rfl)
          try simp only [pt]
          refine tk (i := 26) rfl (.inr ⟨by rfl, rfl⟩) ?_
          try simp only [pt]
          refine tk (i := 27) rfl (.inr ⟨by rfl, rfl⟩) ?_
          try simp only [pt]
          refine tk (i := 28) rfl (.inr ⟨by rfl, rfl⟩) ?_
          try simp only [pt]
          refine tk (i := 29) rfl (.inr ⟨by rfl, rfl⟩) ?_
          try simp only [pt]
          refine tk (i := 30) rfl (.inr ⟨by rfl, rfl⟩) ?_
          try simp only [pt]
          refine tk (i := 31) rfl (.inr ⟨by rfl, rfl⟩) ?_
          try simp only [pt]
          refine tk (i := 32) rfl (.inr ⟨by rfl, rfl⟩) ?_
          try simp only [pt]
          refine tk (i := 33) rfl (.inr ⟨by rfl, rfl⟩) ?_
          try simp only [pt]
          refine tk (i := 34) rfl (.inr ⟨by rfl, rfl⟩) ?_
          try simp only [pt]
          refine tk (i := 35) rfl (.inr ⟨by rfl, rfl⟩) ?_
          try simp only [pt]
          refine tk (i := 36) rfl (.inr ⟨by rfl, rfl⟩) ?_
          try simp only [pt]
          refine tk (i := 37) rfl (.inr ⟨by rfl, rfl⟩) ?_
          try simp only [pt]
          refine tk (i := 38) rfl (.inr ⟨by rfl, rfl⟩) ?_
          try simp only [pt]
          refine tk (i := 39) rfl (.inr ⟨by rfl, rfl⟩) ?_
          try simp only [pt]
          refine tk (i := 40) rfl (.inr ⟨by rfl, rfl⟩) ?_
          try simp only [pt]
          refine tk (i := 41) rfl (.inr ⟨by rfl, rfl⟩) ?_
          try simp only [pt]
          refine tk (i := 42) (v := ?v9d) rfl ?c9d ?d_9d
          case c9d => (refine .inl ⟨by rfl, ?_⟩; intro w h; (try dsimp only at h); go_simp <;> with_reducible rfl)
          try simp only [pt]
          refine wpAnyH_done (by kernel_rfl) ?_ _; go_wp2_with fail; go_ret; exact ⟨jq8 HN.out.symm, HB.out.drew⟩
        · have h2 : 1 ≤ x ∧ x ≤ 999 := by omega
          clear hA
          cases hv : Wsh.vfB n d with
          | false =>
            have HV := Lib.hid hv; have HN : Hid (vlR hs = false) := vl_noF hlt (by rw [HG.out, hv]; rfl); clear hv; go_wp2_with fail; refine wp_region_held_drew (S := fun w' => w'.cell? ⟨g, off + k * 3, none⟩ = some (.int .i64 x) ∧ w'.cell? ⟨g, off + k * 3 + 1, none⟩ = some (.int .i64 n) ∧ w'.cell? ⟨g, off + k * 3 + 2, none⟩ = some (.int .i64 d)) (by kernel_rfl) ?_ (fun hHeld => ?_)
            · exact ⟨c0, c1, c2⟩
            refine tk (i := 0) (v := ?v9e) rfl ?c9e ?d_9e
            case c9e => (refine .inl ⟨by rfl, ?_⟩; intro w h; (try dsimp only at h); go_simp <;> with_reducible rfl)
            try simp only [pt]
            refine tk (i := 1) (v := ?v9f) rfl ?c9f ?d_9f
            case c9f => (refine .inl ⟨by rfl, ?_⟩; intro w h; (try dsimp only at h); go_simp <;> with_reducible rfl)
            try simp only [pt]
            refine tk (i := 2) (v := ?va0) rfl ?ca0 ?d_a0
            case ca0 => (refine .inl ⟨by rfl, ?_⟩; intro w h; (try dsimp only at h); go_simp <;> with_reducible rfl)
            try simp only [pt]
            refine tk (i := 3) (v := ?va1) rfl ?ca1 ?d_a1
            case ca1 => (refine .inl ⟨by rfl, ?_⟩; intro w h; (try dsimp only at h); go_simp <;> with_reducible rfl)
            try simp only [pt]
            refine tk (i := 4) (v := ?va2) rfl ?ca2 ?d_a2
            case ca2 => (refine .inl ⟨by rfl, ?_⟩; intro w h; (try dsimp only at h); go_simp <;> with_reducible rfl)
            try simp only [pt]
            refine wpAnyH_ready (rs := [5]) (by kernel_rfl) (by simp) (AllReadyH.cons (o := ?oob5) ?hib5 (fun K hK => ?hkb5) AllReadyH.nil)
            rotate_left
            case hib5 => (simp only [List.getElem?_toArray, List.getElem?_cons_succ, List.getElem?_cons_zero]; rfl)
            (rw [if_pos (by rfl)]; go_simp; refine (jqh x 1 999 _ h2.1 h2.2).mono ?_; rintro e w3 ⟨rfl, rfl⟩; go_wp2_with fail; refine hK.out _ _ (by assumption) (fun hHeld => ?_); clear hK K)
            try simp only [pt]
            refine tk (i := 6) (v := ?va3) rfl ?ca3 ?d_a3
            case ca3 => (refine .inl ⟨by rfl, ?_⟩; intro w h; (try dsimp only at h); go_simp <;> with_reducible rfl)
            try simp only [pt]
            refine tk (i := 7) (v := ?va4) rfl ?ca4 ?d_a4
            case ca4 => (refine .inl ⟨by rfl, ?_⟩; intro w h; (try dsimp only at h); go_simp <;> with_reducible rfl)
            try simp only [pt]
            refine tk (i := 8) (v := ?va5) rfl ?ca5 ?d_a5
            case ca5 => (refine .inl ⟨by rfl, ?_⟩; intro w h; (try dsimp only at h); go_simp <;> with_reducible rfl)
            try simp only [pt]
            refine tk (i := 9) (v := ?va6) rfl ?ca6 ?d_a6
            case ca6 => (refine .inl ⟨by rfl, ?_⟩; intro w h; (try dsimp only at h); go_simp <;> with_reducible rfl)
            try simp only [pt]
            refine tk (i := 10) (v := ?va7) rfl ?ca7 ?d_a7
            case ca7 => (refine .inl ⟨by rfl, ?_⟩; intro w h; (try dsimp only at h); go_simp <;> with_reducible rfl)
            try simp only [pt]
            refine tk (i := 11) (v := ?va8) rfl ?ca8 ?d_a8
            case ca8 => (refine .inl ⟨by rfl, ?_⟩; intro w h; (try dsimp only at h); go_simp <;> with_reducible rfl)
            try simp only [pt]
            refine tk (i := 12) (v := ?va9) rfl ?ca9 ?d_a9
            case ca9 => (refine .inl ⟨by rfl, ?_⟩; intro w h; (try dsimp only at h); go_simp <;> with_reducible rfl)
            try simp only [pt]
            refine wpAnyH_ready (rs := [13]) (by kernel_rfl) (by simp) (AllReadyH.cons (o := ?oob13) ?hib13 (fun K hK => ?hkb13) AllReadyH.nil)
            rotate_left
            case hib13 => (simp only [List.getElem?_toArray, List.getElem?_cons_succ, List.getElem?_cons_zero]; rfl)
            (rw [if_pos (by rfl)]; go_simp; refine (vf_boolN HV.out _).mono ?_; rintro e w3 ⟨rfl, hb⟩; go_wp2_with fail; refine hK.out _ _ (keep3 hb (by assumption)) (fun hHeld => ?_); clear hK K)
            try simp only [pt]
            refine tk (i := 14) (v := ?vaa) rfl ?caa ?d_aa
            case caa => (refine .inl ⟨by rfl, ?_⟩; intro w h; (try dsimp only at h); go_simp <;> with_reducible rfl)
            try simp only [pt]
            refine tk (i := 15) (v := ?vab) rfl ?cab ?d_ab
            case cab => (refine .inl ⟨by rfl, ?_⟩; intro w h; (try dsimp only at h); go_simp <;> with_reducible rfl)
            try simp only [pt]
            refine tk (i := 16) (v := ?vac) rfl ?cac ?d_ac
            case cac => (refine .inl ⟨by rfl, ?_⟩; intro w h; (try dsimp only at h); go_simp <;> with_reducible rfl)
            try simp only [pt]
            refine tk (i := 17) rfl (.inr ⟨by rfl, rfl⟩) ?_
            try simp only [pt]
            refine tk (i := 18) rfl (.inr ⟨by rfl, rfl⟩) ?_
            try simp only [pt]
            refine tk (i := 19) rfl (.inr ⟨by rfl, rfl⟩) ?_
            try simp only [pt]
            refine tk (i := 20) rfl (.inr ⟨by rfl, rfl⟩) ?_
            try simp only [pt]
            refine tk (i := 21) rfl (.inr ⟨by rfl, rfl⟩) ?_
            try simp only [pt]
            refine tk (i := 22) rfl (.inr ⟨by rfl, rfl⟩) ?_
            try simp only [pt]
            refine tk (i := 23) rfl (.inr ⟨by rfl, rfl⟩) ?_
            try simp only [pt]
            refine tk (i := 24) (v := ?vb4) rfl ?cb4 ?d_b4
            case cb4 => (refine .inl ⟨by rfl, ?_⟩; intro w h; (try dsimp only at h); go_simp <;> with_reducible rfl)
            try simp only [pt]
            refine tk (i := 25) (v := ?vb5) rfl ?cb5 ?d_b5
            case cb5 => (refine .inl ⟨by rfl, ?_⟩; intro w h; (try dsimp only at h); go_simp <;> with_reducible rfl)
            try simp only [pt]
            refine tk (i := 26) rfl (.inr ⟨by rfl, rfl⟩) ?_
            try simp only [pt]
            refine tk (i := 27) rfl (.inr ⟨by rfl, rfl⟩) ?_
            try simp only [pt]
            refine tk (i := 28) rfl (.inr ⟨by rfl, rfl⟩) ?_
            try simp only [pt]
            refine tk (i := 29) rfl (.inr ⟨by rfl, rfl⟩) ?_
            try simp only [pt]
            refine tk (i := 30) rfl (.inr ⟨by rfl, rfl⟩) ?_
            try simp only [pt]
            refine tk (i := 31) rfl (.inr ⟨by rfl, rfl⟩) ?_
            try simp only [pt]
            refine tk (i := 32) rfl (.inr ⟨by rfl, rfl⟩) ?_
            try simp only [pt]
            refine tk (i := 33) rfl (.inr ⟨by rfl, rfl⟩) ?_
            try simp only [pt]
            refine tk (i := 34) rfl (.inr ⟨by rfl, rfl⟩) ?_
            try simp only [pt]
            refine tk (i := 35) rfl (.inr ⟨by rfl, rfl⟩) ?_
            try simp only [pt]
            refine tk (i := 36) rfl (.inr ⟨by rfl, rfl⟩) ?_
            try simp only [pt]
            refine tk (i := 37) rfl (.inr ⟨by rfl, rfl⟩) ?_
            try simp only [pt]
            refine tk (i := 38) rfl (.inr ⟨by rfl, rfl⟩) ?_
            try simp only [pt]
            refine tk (i := 39) rfl (.inr ⟨by rfl, rfl⟩) ?_
            try simp only [pt]
            refine tk (i := 40) rfl (.inr ⟨by rfl, rfl⟩) ?_
            try simp only [pt]
            refine tk (i := 41) rfl (.inr ⟨by rfl, rfl⟩) ?_
            try simp only [pt]
            refine tk (i := 42) (v := ?vc6) rfl ?cc6 ?d_c6
            case cc6 => (refine .inl ⟨by rfl, ?_⟩; intro w h; (try dsimp only at h); go_simp <;> with_reducible rfl)
            try simp only [pt]
            refine wpAnyH_done (by kernel_rfl) ?_ _; go_wp2_with fail; go_ret; exact ⟨jq8 HN.out.symm, jq2 HB.out.drew hb⟩
          | true =>
            have HV := Lib.hid hv
            by_cases hz : n = 0
            · have HN : Hid (vlR hs = false) := vl_noF hlt (by rw [HG.out, hz]; simp)
              have z0 : (n == 0) = true := by simpa using hz
              clear hv hz; go_wp2_with fail; refine wp_region_held_drew (S := fun w' => w'.cell? ⟨g, off + k * 3, none⟩ = some (.int .i64 x) ∧ w'.cell? ⟨g, off + k * 3 + 1, none⟩ = some (.int .i64 n) ∧ w'.cell? ⟨g, off + k * 3 + 2, none⟩ = some (.int .i64 d)) (by kernel_rfl) ?_ (fun hHeld => ?_)
              · exact ⟨c0, c1, c2⟩
              refine tk (i := 0) (v := ?vc7) rfl ?cc7 ?d_c7
              case cc7 => (refine .inl ⟨by rfl, ?_⟩; intro w h; (try dsimp only at h); go_simp <;> with_reducible rfl)
              try simp only [pt]
              refine tk (i := 1) (v := ?vc8) rfl ?cc8 ?d_c8
              case cc8 => (refine .inl ⟨by rfl, ?_⟩; intro w h; (try dsimp only at h); go_simp <;> with_reducible rfl)
              try simp only [pt]
              refine tk (i := 2) (v := ?vc9) rfl ?cc9 ?d_c9
              case cc9 => (refine .inl ⟨by rfl, ?_⟩; intro w h; (try dsimp only at h); go_simp <;> with_reducible rfl)
              try simp only [pt]
              refine tk (i := 3) (v := ?vca) rfl ?cca ?d_ca
              case cca => (refine .inl ⟨by rfl, ?_⟩; intro w h; (try dsimp only at h); go_simp <;> with_reducible rfl)
              try simp only [pt]
              refine tk (i := 4) (v := ?vcb) rfl ?ccb ?d_cb
              case ccb => (refine .inl ⟨by rfl, ?_⟩; intro w h; (try dsimp only at h); go_simp <;> with_reducible rfl)
              try simp only [pt]
              refine wpAnyH_ready (rs := [5]) (by kernel_rfl) (by simp) (AllReadyH.cons (o := ?ooc5) ?hic5 (fun K hK => ?hkc5) AllReadyH.nil)
              rotate_left
              case hic5 => (simp only [List.getElem?_toArray, List.getElem?_cons_succ, List.getElem?_cons_zero]; rfl)
              (rw [if_pos (by rfl)]; go_simp; refine (jqh x 1 999 _ h2.1 h2.2).mono ?_; rintro e w3 ⟨rfl, rfl⟩; go_wp2_with fail; refine hK.out _ _ (by assumption) (fun hHeld => ?_); clear hK K)
              try simp only [pt]
              refine tk (i := 6) (v := ?vcc) rfl ?ccc ?d_cc
              case ccc => (refine .inl ⟨by rfl, ?_⟩; intro w h; (try dsimp only at h); go_simp <;> with_reducible rfl)
              try simp only [pt]
              refine tk (i := 7) (v := ?vcd) rfl ?ccd ?d_cd
              case ccd => (refine .inl ⟨by rfl, ?_⟩; intro w h; (try dsimp only at h); go_simp <;> with_reducible rfl)
              try simp only [pt]
              refine tk (i := 8) (v := ?vce) rfl ?cce ?d_ce
              case cce => (refine .inl ⟨by rfl, ?_⟩; intro w h; (try dsimp only at h); go_simp <;> with_reducible rfl)
              try simp only [pt]
              refine tk (i := 9) (v := ?vcf) rfl ?ccf ?d_cf
              case ccf => (refine .inl ⟨by rfl, ?_⟩; intro w h; (try dsimp only at h); go_simp <;> with_reducible rfl)
              try simp only [pt]
              refine tk (i := 10) (v := ?vd0) rfl ?cd0 ?d_d0
              case cd0 => (refine .inl ⟨by rfl, ?_⟩; intro w h; (try dsimp only at h); go_simp <;> with_reducible rfl)
              try simp only [pt]
              refine tk (i := 11) (v := ?vd1) rfl ?cd1 ?d_d1
              case cd1 => (refine .inl ⟨by rfl, ?_⟩; intro w h; (try dsimp only at h); go_simp <;> with_reducible rfl)
              try simp only [pt]
              refine tk (i := 12) (v := ?vd2) rfl ?cd2 ?d_d2
              case cd2 => (refine .inl ⟨by rfl, ?_⟩; intro w h; (try dsimp only at h); go_simp <;> with_reducible rfl)
              try simp only [pt]
              refine wpAnyH_ready (rs := [13]) (by kernel_rfl) (by simp) (AllReadyH.cons (o := ?ooc13) ?hic13 (fun K hK => ?hkc13) AllReadyH.nil)
              rotate_left
              case hic13 => (simp only [List.getElem?_toArray, List.getElem?_cons_succ, List.getElem?_cons_zero]; rfl)
              (rw [if_pos (by rfl)]; go_simp; refine (vf_boolY HV.out _).mono ?_; rintro e w3 ⟨rfl, hb⟩; go_wp2_with fail; refine hK.out _ _ (keep3 hb (by assumption)) (fun hHeld => ?_); clear hK K)
              try simp only [pt]
              refine tk (i := 14) (v := ?vd3) rfl ?cd3 ?d_d3
              case cd3 => (refine .inl ⟨by rfl, ?_⟩; intro w h; (try dsimp only at h); go_simp <;> with_reducible rfl)
              try simp only [pt]
              refine tk (i := 15) (v := ?vd4) rfl ?cd4 ?d_d4
              case cd4 => (refine .inl ⟨by rfl, ?_⟩; intro w h; (try dsimp only at h); go_simp <;> with_reducible rfl)
              try simp only [pt]
              refine tk (i := 16) (v := ?vd5) rfl ?cd5 ?d_d5
              case cd5 => (refine .inl ⟨by rfl, ?_⟩; intro w h; (try dsimp only at h); go_simp <;> with_reducible rfl)
              try simp only [pt]
              refine tk (i := 17) (v := ?vd6) rfl ?cd6 ?d_d6
              case cd6 => (refine .inl ⟨by rfl, ?_⟩; intro w h; (try dsimp only at h); go_simp <;> with_reducible rfl)
              try simp only [pt]
              refine tk (i := 18) (v := ?vd7) rfl ?cd7 ?d_d7
              case cd7 => (refine .inl ⟨by rfl, ?_⟩; intro w h; (try dsimp only at h); go_simp <;> with_reducible rfl)
              try simp only [pt]
              refine tk (i := 19) (v := ?vd8) rfl ?cd8 ?d_d8
              case cd8 => (refine .inl ⟨by rfl, ?_⟩; intro w h; (try dsimp only at h); go_simp <;> with_reducible rfl)
              try simp only [pt]
              refine tk (i := 20) (v := ?vd9) rfl ?cd9 ?d_d9
              case cd9 => (refine .inl ⟨by rfl, ?_⟩; intro w h; (try dsimp only at h); go_simp <;> with_reducible rfl)
              try simp only [pt]
              refine tk (i := 21) (v := ?vda) rfl ?cda ?d_da
              case cda => (refine .inl ⟨by rfl, ?_⟩; intro w h; (try dsimp only at h); go_simp <;> with_reducible rfl)
              try simp only [pt]
              refine tk (i := 22) (v := ?vdb) rfl ?cdb ?d_db
              case cdb => (refine .inl ⟨by rfl, ?_⟩; intro w h; (try dsimp only at h); go_simp <;> with_reducible rfl)
              try simp only [pt]
              refine tk (i := 23) (v := ?vdc) rfl ?cdc ?d_dc
              case cdc => (refine .inl ⟨by rfl, ?_⟩; intro w h; (try dsimp only at h); go_simp <;> with_reducible rfl)
              try simp only [pt]
              refine tk (i := 24) (v := ?vdd) rfl ?cdd ?d_dd
              case cdd => (refine .inl ⟨by rfl, ?_⟩; intro w h; (try dsimp only at h); go_simp <;> with_reducible rfl)
              try simp only [pt]
              refine tk (i := 25) (v := ?vde) rfl ?cde ?d_de
              case cde => (refine .inl ⟨by rfl, ?_⟩; intro w h; (try dsimp only at h); go_simp <;> with_reducible rfl)
              try simp only [pt]
              refine tk (i := 26) rfl (.inr ⟨by rfl, rfl⟩) ?_
              try simp only [pt]
              refine tk (i := 27) rfl (.inr ⟨by rfl, rfl⟩) ?_
              try simp only [pt]
              refine tk (i := 28) rfl (.inr ⟨by rfl, rfl⟩) ?_
              try simp only [pt]
              refine tk (i := 29) rfl (.inr ⟨by rfl, rfl⟩) ?_
              try simp only [pt]
              refine tk (i := 30) rfl (.inr ⟨by rfl, rfl⟩) ?_
              try simp only [pt]
              refine tk (i := 31) rfl (.inr ⟨by rfl, rfl⟩) ?_
              try simp only [pt]
              refine tk (i := 32) rfl (.inr ⟨by rfl, rfl⟩) ?_
              try simp only [pt]
              refine tk (i := 33) rfl (.inr ⟨by rfl, rfl⟩) ?_
              try simp only [pt]
              refine tk (i := 34) rfl (.inr ⟨by rfl, rfl⟩) ?_
              try simp only [pt]
              refine tk (i := 35) rfl (.inr ⟨by rfl, rfl⟩) ?_
              try simp only [pt]
              refine tk (i := 36) rfl (.inr ⟨by rfl, rfl⟩) ?_
              try simp only [pt]
              refine tk (i := 37) rfl (.inr ⟨by rfl, rfl⟩) ?_
              try simp only [pt]
              refine tk (i := 38) rfl (.inr ⟨by rfl, rfl⟩) ?_
              try simp only [pt]
              refine tk (i := 39) rfl (.inr ⟨by rfl, rfl⟩) ?_
              try simp only [pt]
              refine tk (i := 40) rfl (.inr ⟨by rfl, rfl⟩) ?_
              try simp only [pt]
              refine tk (i := 41) rfl (.inr ⟨by rfl, rfl⟩) ?_
              try simp only [pt]
              refine tk (i := 42) (v := ?vef) rfl ?cef ?d_ef
              case cef => (refine .inl ⟨by rfl, ?_⟩; intro w h; (try dsimp only at h); go_simp <;> with_reducible rfl)
              try simp only [pt]
              refine wpAnyH_done (by kernel_rfl) ?_ _; go_wp2_with fail; go_ret; exact ⟨jq8 HN.out.symm, jq2 HB.out.drew hb⟩
            · have z0 : (n == 0) = false := by simpa using hz
              have HY : Hid (∀ j, j < k + 1 → okF hs j = true) := rng_more HF.out (by rw [HG.out, hv]; simpa using hz); clear hv hz
              cases k with
              | zero =>
                have HZ : Hid (∀ j, j < 0 + 1 → okA hs j = true) := rng_more HA.out (by rw [HO.out, ← HP.out]; show (decide ((0 : Int) < x) && decide (1 ≤ x) && decide (x ≤ 999)) = true; simp; omega)
                have i2 : (0 : Int) < (hs.length : Int) := by omega
                clear i0 i1; simp only [Nat.zero_mul, Nat.add_zero] at c0 c1 c2; go_wp2_with fail; refine wp_region_held_drew (S := fun w' => w'.cell? ⟨g, off, none⟩ = some (.int .i64 x) ∧ w'.cell? ⟨g, off + 1, none⟩ = some (.int .i64 n) ∧ w'.cell? ⟨g, off + 2, none⟩ = some (.int .i64 d)) (by kernel_rfl) ?_ (fun hHeld => ?_)
                · exact ⟨c0, c1, c2⟩
                refine tk (i := 0) (v := ?vf0) rfl ?cf0 ?d_f0
                case cf0 => (refine .inl ⟨by rfl, ?_⟩; intro w h; (try dsimp only at h); go_simp <;> with_reducible rfl)
                try simp only [pt]
                refine tk (i := 1) (v := ?vf1) rfl ?cf1 ?d_f1
                case cf1 => (refine .inl ⟨by rfl, ?_⟩; intro w h; (try dsimp only at h); go_simp <;> with_reducible rfl)
                try simp only [pt]
                refine tk (i := 2) (v := ?vf2) rfl ?cf2 ?d_f2
                case cf2 => (refine .inl ⟨by rfl, ?_⟩; intro w h; (try dsimp only at h); go_simp <;> with_reducible rfl)
                try simp only [pt]
                refine tk (i := 3) (v := ?vf3) rfl ?cf3 ?d_f3
                case cf3 => (refine .inl ⟨by rfl, ?_⟩; intro w h; (try dsimp only at h); go_simp <;> with_reducible rfl)
                try simp only [pt]
                refine tk (i := 4) (v := ?vf4) rfl ?cf4 ?d_f4
                case cf4 => (refine .inl ⟨by rfl, ?_⟩; intro w h; (try dsimp only at h); go_simp <;> with_reducible rfl)
                try simp only [pt]
                refine wpAnyH_ready (rs := [5]) (by kernel_rfl) (by simp) (AllReadyH.cons (o := ?ood5) ?hid5 (fun K hK => ?hkd5) AllReadyH.nil)
                rotate_left
                case hid5 => (simp only [List.getElem?_toArray, List.getElem?_cons_succ, List.getElem?_cons_zero]; rfl)
                (rw [if_pos (by rfl)]; go_simp; refine (jqh x 1 999 _ h2.1 h2.2).mono ?_; rintro e w3 ⟨rfl, rfl⟩; go_wp2_with fail; refine hK.out _ _ (by assumption) (fun hHeld => ?_); clear hK K)
                try simp only [pt]
                refine tk (i := 6) (v := ?vf5) rfl ?cf5 ?d_f5
                case cf5 => (refine .inl ⟨by rfl, ?_⟩; intro w h; (try dsimp only at h); go_simp <;> with_reducible rfl)
                try simp only [pt]
                refine tk (i := 7) (v := ?vf6) rfl ?cf6 ?d_f6
                case cf6 => (refine .inl ⟨by rfl, ?_⟩; intro w h; (try dsimp only at h); go_simp <;> with_reducible rfl)
                try simp only [pt]
                refine tk (i := 8) (v := ?vf7) rfl ?cf7 ?d_f7
                case cf7 => (refine .inl ⟨by rfl, ?_⟩; intro w h; (try dsimp only at h); go_simp <;> with_reducible rfl)
                try simp only [pt]
                refine tk (i := 9) (v := ?vf8) rfl ?cf8 ?d_f8
                case cf8 => (refine .inl ⟨by rfl, ?_⟩; intro w h; (try dsimp only at h); go_simp <;> with_reducible rfl)
                try simp only [pt]
                refine tk (i := 10) (v := ?vf9) rfl ?cf9 ?d_f9
                case cf9 => (refine .inl ⟨by rfl, ?_⟩; intro w h; (try dsimp only at h); go_simp <;> with_reducible rfl)
                try simp only [pt]
                refine tk (i := 11) (v := ?vfa) rfl ?cfa ?d_fa
                case cfa => (refine .inl ⟨by rfl, ?_⟩; intro w h; (try dsimp only at h); go_simp <;> with_reducible rfl)
                try simp only [pt]
                refine tk (i := 12) (v := ?vfb) rfl ?cfb ?d_fb
                case cfb => (refine .inl ⟨by rfl, ?_⟩; intro w h; (try dsimp only at h); go_simp <;> with_reducible rfl)
                try simp only [pt]
                refine wpAnyH_ready (rs := [13]) (by kernel_rfl) (by simp) (AllReadyH.cons (o := ?ood13) ?hid13 (fun K hK => ?hkd13) AllReadyH.nil)
                rotate_left
                case hid13 => (simp only [List.getElem?_toArray, List.getElem?_cons_succ, List.getElem?_cons_zero]; rfl)
                (rw [if_pos (by rfl)]; go_simp; refine (vf_boolY HV.out _).mono ?_; rintro e w3 ⟨rfl, hb⟩; go_wp2_with fail; refine hK.out _ _ (keep3 hb (by assumption)) (fun hHeld => ?_); clear hK K)
                try simp only [pt]
                refine tk (i := 14) (v := ?vfc) rfl ?cfc ?d_fc
                case cfc => (refine .inl ⟨by rfl, ?_⟩; intro w h; (try dsimp only at h); go_simp <;> with_reducible rfl)
                try simp only [pt]
                refine tk (i := 15) (v := ?vfd) rfl ?cfd ?d_fd
                case cfd => (refine .inl ⟨by rfl, ?_⟩; intro w h; (try dsimp only at h); go_simp <;> with_reducible rfl)
                try simp only [pt]
                refine tk (i := 16) (v := ?vfe) rfl ?cfe ?d_fe
                case cfe => (refine .inl ⟨by rfl, ?_⟩; intro w h; (try dsimp only at h); go_simp <;> with_reducible rfl)
                try simp only [pt]
                refine tk (i := 17) (v := ?vff) rfl ?cff ?d_ff
                case cff => (refine .inl ⟨by rfl, ?_⟩; intro w h; (try dsimp only at h); go_simp <;> with_reducible rfl)
                try simp only [pt]
                refine tk (i := 18) (v := ?v100) rfl ?c100 ?d_100
                case c100 => (refine .inl ⟨by rfl, ?_⟩; intro w h; (try dsimp only at h); go_simp <;> with_reducible rfl)
                try simp only [pt]
                refine tk (i := 19) (v := ?v101) rfl ?c101 ?d_101
                case c101 => (refine .inl ⟨by rfl, ?_⟩; intro w h; (try dsimp only at h); go_simp <;> with_reducible rfl)
                try simp only [pt]
                refine tk (i := 20) (v := ?v102) rfl ?c102 ?d_102
                case c102 => (refine .inl ⟨by rfl, ?_⟩; intro w h; (try dsimp only at h); go_simp <;> with_reducible rfl)
                try simp only [pt]
                refine tk (i := 21) (v := ?v103) rfl ?c103 ?d_103
                case c103 => (refine .inl ⟨by rfl, ?_⟩; intro w h; (try dsimp only at h); go_simp <;> with_reducible rfl)
                try simp only [pt]
                refine tk (i := 22) (v := ?v104) rfl ?c104 ?d_104
                case c104 => (refine .inl ⟨by rfl, ?_⟩; intro w h; (try dsimp only at h); go_simp <;> with_reducible rfl)
                try simp only [pt]
                refine tk (i := 23) (v := ?v105) rfl ?c105 ?d_105
                case c105 => (refine .inl ⟨by rfl, ?_⟩; intro w h; (try dsimp only at h); go_simp <;> with_reducible rfl)
                try simp only [pt]
                refine tk (i := 24) (v := ?v106) rfl ?c106 ?d_106
                case c106 => (refine .inl ⟨by rfl, ?_⟩; intro w h; (try dsimp only at h); go_simp <;> with_reducible rfl)
                try simp only [pt]
                refine tk (i := 25) (v := ?v107) rfl ?c107 ?d_107
                case c107 => (refine .inl ⟨by rfl, ?_⟩; intro w h; (try dsimp only at h); go_simp <;> with_reducible rfl)
                try simp only [pt]
                refine tk (i := 26) (v := ?v108) rfl ?c108 ?d_108
                case c108 => (refine .inl ⟨by rfl, ?_⟩; intro w h; (try dsimp only at h); go_simp <;> with_reducible rfl)
                try simp only [pt]
                refine tk (i := 27) (v := ?v109) rfl ?c109 ?d_109
                case c109 => (refine .inl ⟨by rfl, ?_⟩; intro w h; (try dsimp only at h); go_simp <;> with_reducible rfl)
                try simp only [pt]
                refine tk (i := 28) (v := ?v10a) rfl ?c10a ?d_10a
                case c10a => (refine .inl ⟨by rfl, ?_⟩; intro w h; (try dsimp only at h); go_simp <;> with_reducible rfl)
                try simp only [pt]
                refine tk (i := 29) rfl (.inr ⟨by rfl, rfl⟩) ?_
                try simp only [pt]
                refine tk (i := 30) rfl (.inr ⟨by rfl, rfl⟩) ?_
                try simp only [pt]
                refine tk (i := 31) rfl (.inr ⟨by rfl, rfl⟩) ?_
                try simp only [pt]
                refine tk (i := 32) rfl (.inr ⟨by rfl, rfl⟩) ?_
                try simp only [pt]
                refine tk (i := 33) rfl (.inr ⟨by rfl, rfl⟩) ?_
                try simp only [pt]
                refine tk (i := 34) rfl (.inr ⟨by rfl, rfl⟩) ?_
                try simp only [pt]
                refine tk (i := 35) rfl (.inr ⟨by rfl, rfl⟩) ?_
                try simp only [pt]
                refine tk (i := 36) rfl (.inr ⟨by rfl, rfl⟩) ?_
                try simp only [pt]
                refine tk (i := 37) rfl (.inr ⟨by rfl, rfl⟩) ?_
                try simp only [pt]
                refine tk (i := 38) rfl (.inr ⟨by rfl, rfl⟩) ?_
                try simp only [pt]
                refine tk (i := 39) rfl (.inr ⟨by rfl, rfl⟩) ?_
                try simp only [pt]
                refine tk (i := 40) rfl (.inr ⟨by rfl, rfl⟩) ?_
                try simp only [pt]
                refine tk (i := 41) (v := ?v117) rfl ?c117 ?d_117
                case c117 => (refine .inl ⟨by rfl, ?_⟩; intro w h; (try dsimp only at h); go_simp <;> with_reducible rfl)
                try simp only [pt]
                refine tk (i := 42) (v := ?v118) rfl ?c118 ?d_118
                case c118 => (refine .inl ⟨by rfl, ?_⟩; intro w h; (try dsimp only at h); go_simp <;> with_reducible rfl)
                try simp only [pt]
                refine wpAnyH_done (by kernel_rfl) ?_ _; go_wp2_with fail
                go_roundw
                case rel => exact ⟨1, rfl, by omega, HZ.out, HY.out, jq2 HB.out.drew hb⟩
                case measure => simp [intOf]; omega
              | succ m =>
                have c3 : wr.cell? ⟨g, off + m * 3, none⟩ = some (.int .i64 p) := HD.out (by omega)
                have i2 : (0 : Int) ≤ (m : Int) := by omega
                have i3 : (0 : Int) ≤ (m : Int) + 1 := by omega
                have i4 : ((m : Int) + 1).toNat = m + 1 := by omega
                have i5 : (0 : Int) < (m : Int) + 1 := by omega
                have i8 : (m : Int) + 1 < (hs.length : Int) := by omega
                have i9 : (m : Int) < (hs.length : Int) := by omega
                clear i0 i1
                by_cases hp : x ≤ p
                · have hp' : decide (x ≤ p) = true := by simpa using hp
                  have HN : Hid (vlR hs = false) := vl_noA hlt (by rw [HO.out, decide_eq_false (by omega : ¬ p < x)]; rfl)
                  have i6 : IntKind.i64.wrap ((m : Int) + 1 - 1) = (m : Int) := by rw [IntWalk.i64_in _ (by omega)]; omega
                  have i7 : IntKind.i64.wrap (m : Int) = (m : Int) := IntWalk.i64_in _ (by omega); clear hp; go_wp2_with fail; refine wp_region_held_drew (S := fun w' => w'.cell? ⟨g, off + (m + 1) * 3, none⟩ = some (.int .i64 x) ∧ w'.cell? ⟨g, off + (m + 1) * 3 + 1, none⟩ = some (.int .i64 n) ∧ w'.cell? ⟨g, off + (m + 1) * 3 + 2, none⟩ = some (.int .i64 d) ∧ w'.cell? ⟨g, off + m * 3, none⟩ = some (.int .i64 p)) (by kernel_rfl) ?_ (fun hHeld => ?_)
                  · exact ⟨c0, c1, c2, c3⟩
                  refine tk (i := 0) (v := ?v119) rfl ?c119 ?d_119
                  case c119 => (refine .inl ⟨by rfl, ?_⟩; intro w h; (try dsimp only at h); go_simp <;> with_reducible rfl)
                  try simp only [pt]
                  refine tk (i := 1) (v := ?v11a) rfl ?c11a ?d_11a
                  case c11a => (refine .inl ⟨by rfl, ?_⟩; intro w h; (try dsimp only at h); go_simp <;> with_reducible rfl)
                  try simp only [pt]
                  refine tk (i := 2) (v := ?v11b) rfl ?c11b ?d_11b
                  case c11b => (refine .inl ⟨by rfl, ?_⟩; intro w h; (try dsimp only at h); go_simp <;> with_reducible rfl)
                  try simp only [pt]
                  refine tk (i := 3) (v := ?v11c) rfl ?c11c ?d_11c
                  case c11c => (refine .inl ⟨by rfl, ?_⟩; intro w h; (try dsimp only at h); go_simp <;> with_reducible rfl)
                  try simp only [pt]
                  refine tk (i := 4) (v := ?v11d) rfl ?c11d ?d_11d
                  case c11d => (refine .inl ⟨by rfl, ?_⟩; intro w h; (try dsimp only at h); go_simp <;> with_reducible rfl)
                  try simp only [pt]
                  refine wpAnyH_ready (rs := [5]) (by kernel_rfl) (by simp) (AllReadyH.cons (o := ?ooe5) ?hie5 (fun K hK => ?hke5) AllReadyH.nil)
                  rotate_left
                  case hie5 => (simp only [List.getElem?_toArray, List.getElem?_cons_succ, List.getElem?_cons_zero]; rfl)
                  (rw [if_pos (by rfl)]; go_simp; refine (jqh x 1 999 _ h2.1 h2.2).mono ?_; rintro e w3 ⟨rfl, rfl⟩; go_wp2_with fail; refine hK.out _ _ (by assumption) (fun hHeld => ?_); clear hK K)
                  try simp only [pt]
                  refine tk (i := 6) (v := ?v11e) rfl ?c11e ?d_11e
                  case c11e => (refine .inl ⟨by rfl, ?_⟩; intro w h; (try dsimp only at h); go_simp <;> with_reducible rfl)
                  try simp only [pt]
                  refine tk (i := 7) (v := ?v11f) rfl ?c11f ?d_11f
                  case c11f => (refine .inl ⟨by rfl, ?_⟩; intro w h; (try dsimp only at h); go_simp <;> with_reducible rfl)
                  try simp only [pt]
                  refine tk (i := 8) (v := ?v120) rfl ?c120 ?d_120
                  case c120 => (refine .inl ⟨by rfl, ?_⟩; intro w h; (try dsimp only at h); go_simp <;> with_reducible rfl)
                  try simp only [pt]
                  refine tk (i := 9) (v := ?v121) rfl ?c121 ?d_121
                  case c121 => (refine .inl ⟨by rfl, ?_⟩; intro w h; (try dsimp only at h); go_simp <;> with_reducible rfl)
                  try simp only [pt]
                  refine tk (i := 10) (v := ?v122) rfl ?c122 ?d_122
                  case c122 => (refine .inl ⟨by rfl, ?_⟩; intro w h; (try dsimp only at h); go_simp <;> with_reducible rfl)
                  try simp only [pt]
                  refine tk (i := 11) (v := ?v123) rfl ?c123 ?d_123
                  case c123 => (refine .inl ⟨by rfl, ?_⟩; intro w h; (try dsimp only at h); go_simp <;> with_reducible rfl)
                  try simp only [pt]
                  refine tk (i := 12) (v := ?v124) rfl ?c124 ?d_124
                  case c124 => (refine .inl ⟨by rfl, ?_⟩; intro w h; (try dsimp only at h); go_simp <;> with_reducible rfl)
                  try simp only [pt]
                  refine wpAnyH_ready (rs := [13]) (by kernel_rfl) (by simp) (AllReadyH.cons (o := ?ooe13) ?hie13 (fun K hK => ?hke13) AllReadyH.nil)
                  rotate_left
                  case hie13 => (simp only [List.getElem?_toArray, List.getElem?_cons_succ, List.getElem?_cons_zero]; rfl)
                  (rw [if_pos (by rfl)]; go_simp; refine (vf_boolY HV.out _).mono ?_; rintro e w3 ⟨rfl, hb⟩; go_wp2_with fail; refine hK.out _ _ (keep4 hb (by assumption)) (fun hHeld => ?_); clear hK K)
                  try simp only [pt]
                  refine tk (i := 14) (v := ?v125) rfl ?c125 ?d_125
                  case c125 => (refine .inl ⟨by rfl, ?_⟩; intro w h; (try dsimp only at h); go_simp <;> with_reducible rfl)
                  try simp only [pt]
                  refine tk (i := 15) (v := ?v126) rfl ?c126 ?d_126
                  case c126 => (refine .inl ⟨by rfl, ?_⟩; intro w h; (try dsimp only at h); go_simp <;> with_reducible rfl)
                  try simp only [pt]
                  refine tk (i := 16) (v := ?v127) rfl ?c127 ?d_127
                  case c127 => (refine .inl ⟨by rfl, ?_⟩; intro w h; (try dsimp only at h); go_simp <;> with_reducible rfl)
                  try simp only [pt]
                  refine tk (i := 17) (v := ?v128) rfl ?c128 ?d_128
                  case c128 => (refine .inl ⟨by rfl, ?_⟩; intro w h; (try dsimp only at h); go_simp <;> with_reducible rfl)
                  try simp only [pt]
                  refine tk (i := 18) (v := ?v129) rfl ?c129 ?d_129
                  case c129 => (refine .inl ⟨by rfl, ?_⟩; intro w h; (try dsimp only at h); go_simp <;> with_reducible rfl)
                  try simp only [pt]
                  refine tk (i := 19) (v := ?v12a) rfl ?c12a ?d_12a
                  case c12a => (refine .inl ⟨by rfl, ?_⟩; intro w h; (try dsimp only at h); go_simp <;> with_reducible rfl)
                  try simp only [pt]
                  refine tk (i := 20) (v := ?v12b) rfl ?c12b ?d_12b
                  case c12b => (refine .inl ⟨by rfl, ?_⟩; intro w h; (try dsimp only at h); go_simp <;> with_reducible rfl)
                  try simp only [pt]
                  refine tk (i := 21) (v := ?v12c) rfl ?c12c ?d_12c
                  case c12c => (refine .inl ⟨by rfl, ?_⟩; intro w h; (try dsimp only at h); go_simp <;> with_reducible rfl)
                  try simp only [pt]
                  refine tk (i := 22) (v := ?v12d) rfl ?c12d ?d_12d
                  case c12d => (refine .inl ⟨by rfl, ?_⟩; intro w h; (try dsimp only at h); go_simp <;> with_reducible rfl)
                  try simp only [pt]
                  refine tk (i := 23) (v := ?v12e) rfl ?c12e ?d_12e
                  case c12e => (refine .inl ⟨by rfl, ?_⟩; intro w h; (try dsimp only at h); go_simp <;> with_reducible rfl)
                  try simp only [pt]
                  refine tk (i := 24) (v := ?v12f) rfl ?c12f ?d_12f
                  case c12f => (refine .inl ⟨by rfl, ?_⟩; intro w h; (try dsimp only at h); go_simp <;> with_reducible rfl)
                  try simp only [pt]
                  refine tk (i := 25) (v := ?v130) rfl ?c130 ?d_130
                  case c130 => (refine .inl ⟨by rfl, ?_⟩; intro w h; (try dsimp only at h); go_simp <;> with_reducible rfl)
                  try simp only [pt]
                  refine tk (i := 26) (v := ?v131) rfl ?c131 ?d_131
                  case c131 => (refine .inl ⟨by rfl, ?_⟩; intro w h; (try dsimp only at h); go_simp <;> with_reducible rfl)
                  try simp only [pt]
                  refine tk (i := 27) (v := ?v132) rfl ?c132 ?d_132
                  case c132 => (refine .inl ⟨by rfl, ?_⟩; intro w h; (try dsimp only at h); go_simp <;> with_reducible rfl)
                  try simp only [pt]
                  refine tk (i := 28) (v := ?v133) rfl ?c133 ?d_133
                  case c133 => (refine .inl ⟨by rfl, ?_⟩; intro w h; (try dsimp only at h); go_simp <;> with_reducible rfl)
                  try simp only [pt]
                  refine tk (i := 29) (v := ?v134) rfl ?c134 ?d_134
                  case c134 => (refine .inl ⟨by rfl, ?_⟩; intro w h; (try dsimp only at h); go_simp <;> with_reducible rfl)
                  try simp only [pt]
                  refine tk (i := 30) (v := ?v135) rfl ?c135 ?d_135
                  case c135 => (refine .inl ⟨by rfl, ?_⟩; intro w h; (try dsimp only at h); go_simp <;> with_reducible rfl)
                  try simp only [pt]
                  refine tk (i := 31) (v := ?v136) rfl ?c136 ?d_136
                  case c136 => (refine .inl ⟨by rfl, ?_⟩; intro w h; (try dsimp only at h); go_simp <;> with_reducible rfl)
                  try simp only [pt]
                  refine tk (i := 32) (v := ?v137) rfl ?c137 ?d_137
                  case c137 => (refine .inl ⟨by rfl, ?_⟩; intro w h; (try dsimp only at h); go_simp <;> with_reducible rfl)
                  try simp only [pt]
                  refine tk (i := 33) (v := ?v138) rfl ?c138 ?d_138
                  case c138 => (refine .inl ⟨by rfl, ?_⟩; intro w h; (try dsimp only at h); go_simp <;> with_reducible rfl)
                  try simp only [pt]
                  refine tk (i := 34) (v := ?v139) rfl ?c139 ?d_139
                  case c139 => (refine .inl ⟨by rfl, ?_⟩; intro w h; (try dsimp only at h); go_simp <;> with_reducible rfl)
                  try simp only [pt]
                  refine tk (i := 35) (v := ?v13a) rfl ?c13a ?d_13a
                  case c13a => (refine .inl ⟨by rfl, ?_⟩; intro w h; (try dsimp only at h); go_simp <;> with_reducible rfl)
                  try simp only [pt]
                  refine tk (i := 36) (v := ?v13b) rfl ?c13b ?d_13b
                  case c13b => (refine .inl ⟨by rfl, ?_⟩; intro w h; (try dsimp only at h); go_simp <;> with_reducible rfl)
                  try simp only [pt]
                  refine tk (i := 37) (v := ?v13c) rfl ?c13c ?d_13c
                  case c13c => (refine .inl ⟨by rfl, ?_⟩; intro w h; (try dsimp only at h); go_simp <;> with_reducible rfl)
                  try simp only [pt]
                  refine tk (i := 38) (v := ?v13d) rfl ?c13d ?d_13d
                  case c13d => (refine .inl ⟨by rfl, ?_⟩; intro w h; (try dsimp only at h); go_simp <;> with_reducible rfl)
                  try simp only [pt]
                  refine tk (i := 39) (v := ?v13e) rfl ?c13e ?d_13e
                  case c13e => (refine .inl ⟨by rfl, ?_⟩; intro w h; (try dsimp only at h); go_simp <;> with_reducible rfl)
                  try simp only [pt]
                  refine tk (i := 40) (v := ?v13f) rfl ?c13f ?d_13f
                  case c13f => (refine .inl ⟨by rfl, ?_⟩; intro w h; (try dsimp only at h); go_simp <;> with_reducible rfl)
                  try simp only [pt]
                  refine tk (i := 41) (v := ?v140) rfl ?c140 ?d_140
                  case c140 => (refine .inl ⟨by rfl, ?_⟩; intro w h; (try dsimp only at h); go_simp <;> with_reducible rfl)
                  try simp only [pt]
                  refine tk (i := 42) (v := ?v141) rfl ?c141 ?d_141
                  case c141 => (refine .inl ⟨by rfl, ?_⟩; intro w h; (try dsimp only at h); go_simp <;> with_reducible rfl)
                  try simp only [pt]
                  refine wpAnyH_done (by kernel_rfl) ?_ _; go_wp2_with fail; go_ret; exact ⟨jq8 HN.out.symm, jq2 HB.out.drew hb⟩
                · have hp' : decide (x ≤ p) = false := by simpa using hp
                  have HZ : Hid (∀ j, j < m + 1 + 1 → okA hs j = true) := rng_more HA.out (by rw [HO.out]; simp; omega)
                  have i6 : IntKind.i64.wrap ((m : Int) + 1 - 1) = (m : Int) := by rw [IntWalk.i64_in _ (by omega)]; omega
                  have i7 : IntKind.i64.wrap (m : Int) = (m : Int) := IntWalk.i64_in _ (by omega); clear hp; go_wp2_with fail; refine wp_region_held_drew (S := fun w' => w'.cell? ⟨g, off + (m + 1) * 3, none⟩ = some (.int .i64 x) ∧ w'.cell? ⟨g, off + (m + 1) * 3 + 1, none⟩ = some (.int .i64 n) ∧ w'.cell? ⟨g, off + (m + 1) * 3 + 2, none⟩ = some (.int .i64 d) ∧ w'.cell? ⟨g, off + m * 3, none⟩ = some (.int .i64 p)) (by kernel_rfl) ?_ (fun hHeld => ?_)
                  · exact ⟨c0, c1, c2, c3⟩
                  refine tk (i := 0) (v := ?v142) rfl ?c142 ?d_142
                  case c142 => (refine .inl ⟨by rfl, ?_⟩; intro w h; (try dsimp only at h); go_simp <;> with_reducible rfl)
                  try simp only [pt]
                  refine tk (i := 1) (v := ?v143) rfl ?c143 ?d_143
                  case c143 => (refine .inl ⟨by rfl, ?_⟩; intro w h; (try dsimp only at h); go_simp <;> with_reducible rfl)
                  try simp only [pt]
                  refine tk (i := 2) (v := ?v144) rfl ?c144 ?d_144
                  case c144 => (refine .inl ⟨by rfl, ?_⟩; intro w h; (try dsimp only at h); go_simp <;> with_reducible rfl)
                  try simp only [pt]
                  refine tk (i := 3) (v := ?v145) rfl ?c145 ?d_145
                  case c145 => (refine .inl ⟨by rfl, ?_⟩; intro w h; (try dsimp only at h); go_simp <;> with_reducible rfl)
                  try simp only [pt]
                  refine tk (i := 4) (v := ?v146) rfl ?c146 ?d_146
                  case c146 => (refine .inl ⟨by rfl, ?_⟩; intro w h; (try dsimp only at h); go_simp <;> with_reducible rfl)
                  try simp only [pt]
                  refine wpAnyH_ready (rs := [5]) (by kernel_rfl) (by simp) (AllReadyH.cons (o := ?oof5) ?hif5 (fun K hK => ?hkf5) AllReadyH.nil)
                  rotate_left
                  case hif5 => (simp only [List.getElem?_toArray, List.getElem?_cons_succ, List.getElem?_cons_zero]; rfl)
                  (rw [if_pos (by rfl)]; go_simp; refine (jqh x 1 999 _ h2.1 h2.2).mono ?_; rintro e w3 ⟨rfl, rfl⟩; go_wp2_with fail; refine hK.out _ _ (by assumption) (fun hHeld => ?_); clear hK K)
                  try simp only [pt]
                  refine tk (i := 6) (v := ?v147) rfl ?c147 ?d_147
                  case c147 => (refine .inl ⟨by rfl, ?_⟩; intro w h; (try dsimp only at h); go_simp <;> with_reducible rfl)
                  try simp only [pt]
                  refine tk (i := 7) (v := ?v148) rfl ?c148 ?d_148
                  case c148 => (refine .inl ⟨by rfl, ?_⟩; intro w h; (try dsimp only at h); go_simp <;> with_reducible rfl)
                  try simp only [pt]
                  refine tk (i := 8) (v := ?v149) rfl ?c149 ?d_149
                  case c149 => (refine .inl ⟨by rfl, ?_⟩; intro w h; (try dsimp only at h); go_simp <;> with_reducible rfl)
                  try simp only [pt]
                  refine tk (i := 9) (v := ?v14a) rfl ?c14a ?d_14a
                  case c14a => (refine .inl ⟨by rfl, ?_⟩; intro w h; (try dsimp only at h); go_simp <;> with_reducible rfl)
                  try simp only [pt]
                  refine tk (i := 10) (v := ?v14b) rfl ?c14b ?d_14b
                  case c14b => (refine .inl ⟨by rfl, ?_⟩; intro w h; (try dsimp only at h); go_simp <;> with_reducible rfl)
                  try simp only [pt]
                  refine tk (i := 11) (v := ?v14c) rfl ?c14c ?d_14c
                  case c14c => (refine .inl ⟨by rfl, ?_⟩; intro w h; (try dsimp only at h); go_simp <;> with_reducible rfl)
                  try simp only [pt]
                  refine tk (i := 12) (v := ?v14d) rfl ?c14d ?d_14d
                  case c14d => (refine .inl ⟨by rfl, ?_⟩; intro w h; (try dsimp only at h); go_simp <;> with_reducible rfl)
                  try simp only [pt]
                  refine wpAnyH_ready (rs := [13]) (by kernel_rfl) (by simp) (AllReadyH.cons (o := ?oof13) ?hif13 (fun K hK => ?hkf13) AllReadyH.nil)
                  rotate_left
                  case hif13 => (simp only [List.getElem?_toArray, List.getElem?_cons_succ, List.getElem?_cons_zero]; rfl)
                  (rw [if_pos (by rfl)]; go_simp; refine (vf_boolY HV.out _).mono ?_; rintro e w3 ⟨rfl, hb⟩; go_wp2_with fail; refine hK.out _ _ (keep4 hb (by assumption)) (fun hHeld => ?_); clear hK K)
                  try simp only [pt]
                  refine tk (i := 14) (v := ?v14e) rfl ?c14e ?d_14e
                  case c14e => (refine .inl ⟨by rfl, ?_⟩; intro w h; (try dsimp only at h); go_simp <;> with_reducible rfl)
                  try simp only [pt]
                  refine tk (i := 15) (v := ?v14f) rfl ?c14f ?d_14f
                  case c14f => (refine .inl ⟨by rfl, ?_⟩; intro w h; (try dsimp only at h); go_simp <;> with_reducible rfl)
                  try simp only [pt]
                  refine tk (i := 16) (v := ?v150) rfl ?c150 ?d_150
                  case c150 => (refine .inl ⟨by rfl, ?_⟩; intro w h; (try dsimp only at h); go_simp <;> with_reducible rfl)
                  try simp only [pt]
                  refine tk (i := 17) (v := ?v151) rfl ?c151 ?d_151
                  case c151 => (refine .inl ⟨by rfl, ?_⟩; intro w h; (try dsimp only at h); go_simp <;> with_reducible rfl)
                  try simp only [pt]
                  refine tk (i := 18) (v := ?v152) rfl ?c152 ?d_152
                  case c152 => (refine .inl ⟨by rfl, ?_⟩; intro w h; (try dsimp only at h); go_simp <;> with_reducible rfl)
                  try simp only [pt]
                  refine tk (i := 19) (v := ?v153) rfl ?c153 ?d_153
                  case c153 => (refine .inl ⟨by rfl, ?_⟩; intro w h; (try dsimp only at h); go_simp <;> with_reducible rfl)
                  try simp only [pt]
                  refine tk (i := 20) (v := ?v154) rfl ?c154 ?d_154
                  case c154 => (refine .inl ⟨by rfl, ?_⟩; intro w h; (try dsimp only at h); go_simp <;> with_reducible rfl)
                  try simp only [pt]
                  refine tk (i := 21) (v := ?v155) rfl ?c155 ?d_155
                  case c155 => (refine .inl ⟨by rfl, ?_⟩; intro w h; (try dsimp only at h); go_simp <;> with_reducible rfl)
                  try simp only [pt]
                  refine tk (i := 22) (v := ?v156) rfl ?c156 ?d_156
                  case c156 => (refine .inl ⟨by rfl, ?_⟩; intro w h; (try dsimp only at h); go_simp <;> with_reducible rfl)
                  try simp only [pt]
                  refine tk (i := 23) (v := ?v157) rfl ?c157 ?d_157
                  case c157 => (refine .inl ⟨by rfl, ?_⟩; intro w h; (try dsimp only at h); go_simp <;> with_reducible rfl)
                  try simp only [pt]
                  refine tk (i := 24) (v := ?v158) rfl ?c158 ?d_158
                  case c158 => (refine .inl ⟨by rfl, ?_⟩; intro w h; (try dsimp only at h); go_simp <;> with_reducible rfl)
                  try simp only [pt]
                  refine tk (i := 25) (v := ?v159) rfl ?c159 ?d_159
                  case c159 => (refine .inl ⟨by rfl, ?_⟩; intro w h; (try dsimp only at h); go_simp <;> with_reducible rfl)
                  try simp only [pt]
                  refine tk (i := 26) (v := ?v15a) rfl ?c15a ?d_15a
                  case c15a => (refine .inl ⟨by rfl, ?_⟩; intro w h; (try dsimp only at h); go_simp <;> with_reducible rfl)
                  try simp only [pt]
                  refine tk (i := 27) (v := ?v15b) rfl ?c15b ?d_15b
                  case c15b => (refine .inl ⟨by rfl, ?_⟩; intro w h; (try dsimp only at h); go_simp <;> with_reducible rfl)
                  try simp only [pt]
                  refine tk (i := 28) (v := ?v15c) rfl ?c15c ?d_15c
                  case c15c => (refine .inl ⟨by rfl, ?_⟩; intro w h; (try dsimp only at h); go_simp <;> with_reducible rfl)
                  try simp only [pt]
                  refine tk (i := 29) (v := ?v15d) rfl ?c15d ?d_15d
                  case c15d => (refine .inl ⟨by rfl, ?_⟩; intro w h; (try dsimp only at h); go_simp <;> with_reducible rfl)
                  try simp only [pt]
                  refine tk (i := 30) (v := ?v15e) rfl ?c15e ?d_15e
                  case c15e => (refine .inl ⟨by rfl, ?_⟩; intro w h; (try dsimp only at h); go_simp <;> with_reducible rfl)
                  try simp only [pt]
                  refine tk (i := 31) (v := ?v15f) rfl ?c15f ?d_15f
                  case c15f => (refine .inl ⟨by rfl, ?_⟩; intro w h; (try dsimp only at h); go_simp <;> with_reducible rfl)
                  try simp only [pt]
                  refine tk (i := 32) (v := ?v160) rfl ?c160 ?d_160
                  case c160 => (refine .inl ⟨by rfl, ?_⟩; intro w h; (try dsimp only at h); go_simp <;> with_reducible rfl)
                  try simp only [pt]
                  refine tk (i := 33) (v := ?v161) rfl ?c161 ?d_161
                  case c161 => (refine .inl ⟨by rfl, ?_⟩; intro w h; (try dsimp only at h); go_simp <;> with_reducible rfl)
                  try simp only [pt]
                  refine tk (i := 34) (v := ?v162) rfl ?c162 ?d_162
                  case c162 => (refine .inl ⟨by rfl, ?_⟩; intro w h; (try dsimp only at h); go_simp <;> with_reducible rfl)
                  try simp only [pt]
                  refine tk (i := 35) (v := ?v163) rfl ?c163 ?d_163
                  case c163 => (refine .inl ⟨by rfl, ?_⟩; intro w h; (try dsimp only at h); go_simp <;> with_reducible rfl)
                  try simp only [pt]
                  refine tk (i := 36) (v := ?v164) rfl ?c164 ?d_164
                  case c164 => (refine .inl ⟨by rfl, ?_⟩; intro w h; (try dsimp only at h); go_simp <;> with_reducible rfl)
                  try simp only [pt]
                  refine tk (i := 37) (v := ?v165) rfl ?c165 ?d_165
                  case c165 => (refine .inl ⟨by rfl, ?_⟩; intro w h; (try dsimp only at h); go_simp <;> with_reducible rfl)
                  try simp only [pt]
                  refine tk (i := 38) (v := ?v166) rfl ?c166 ?d_166
                  case c166 => (refine .inl ⟨by rfl, ?_⟩; intro w h; (try dsimp only at h); go_simp <;> with_reducible rfl)
                  try simp only [pt]
                  refine tk (i := 39) (v := ?v167) rfl ?c167 ?d_167
                  case c167 => (refine .inl ⟨by rfl, ?_⟩; intro w h; (try dsimp only at h); go_simp <;> with_reducible rfl)
                  try simp only [pt]
                  refine tk (i := 40) (v := ?v168) rfl ?c168 ?d_168
                  case c168 => (refine .inl ⟨by rfl, ?_⟩; intro w h; (try dsimp only at h); go_simp <;> with_reducible rfl)
                  try simp only [pt]
                  refine tk (i := 41) (v := ?v169) rfl ?c169 ?d_169
                  case c169 => (refine .inl ⟨by rfl, ?_⟩; intro w h; (try dsimp only at h); go_simp <;> with_reducible rfl)
                  try simp only [pt]
                  refine tk (i := 42) (v := ?v16a) rfl ?c16a ?d_16a
                  case c16a => (refine .inl ⟨by rfl, ?_⟩; intro w h; (try dsimp only at h); go_simp <;> with_reducible rfl)
                  try simp only [pt]
                  refine wpAnyH_done (by kernel_rfl) ?_ _; go_wp2_with fail
                  go_roundw
                  case rel => exact ⟨m + 1 + 1, by go_num, by omega, HZ.out, HY.out, jq2 HB.out.drew hb⟩
                  case measure => simp [intOf]; omega
      · obtain rfl : hs.length = k := by omega
        have hs0 := ssumOf (some ⟨g, off, none⟩) cap hs wr (jx3 H0.out hB) hn (rng_yes HF.out); have hw0 := vl_all (rng_yes HA.out) (rng_yes HF.out); have H1 := Lib.hid hs0; have H2 := Lib.hid hw0; clear hs0 hw0
        cases hq : allQ hs with
        | false =>
          have hsum : Calls Try.prog 113 #[.slice (some ⟨g, off, none⟩) hs.length cap] wr fun e w' => e = .returned (.tuple #[.agg #[.int .i64 0, .int .i64 0], .bool false]) ∧ Below wr.heap.size wr w' := by
            have := H1.out; unfold SumV at this; rw [hq] at this; exact this
          have HN : Hid (vlR hs = false) := by have := H2.out; rw [hq] at this; exact this
          clear hq; go_wp2_with fail; refine hsum.mono ?_; rintro e w1 ⟨rfl, hb⟩; have hB1 := jq2 hB hb; go_wp2_with fail; go_ret; exact ⟨jq8 HN.out.symm, hB1.alloc hB1.size _⟩
        | true =>
          obtain ⟨x, hx⟩ : ∃ x, x = (sumQ hs hs.length).num := ⟨_, rfl⟩
          obtain ⟨y, hy⟩ : ∃ y, y = ((sumQ hs hs.length).den : Int) := ⟨_, rfl⟩
          have hsum : Calls Try.prog 113 #[.slice (some ⟨g, off, none⟩) hs.length cap] wr fun e w' => e = .returned (.tuple #[.agg #[.int .i64 x, .int .i64 y], .bool true]) ∧ Below wr.heap.size wr w' := by
            have := H1.out; unfold SumV at this; rw [hq] at this; rw [hx, hy]; exact this
          have H3 : Hid (x = 1 → y = 1 → decide ((hs.length : Int) ≤ 12) = vlR hs) := fun e1 e2 => by
            have := H2.out; rw [hq, decide_eq_true (one_iff.2 (by rw [← hx, ← hy, e1, e2]))] at this; rw [this, Bool.true_and, Bool.true_and, decide_eq_decide]; omega
          have H4 : Hid ((¬ x = 1 ∨ ¬ y = 1) → false = vlR hs) := fun e => by
            have := H2.out; rw [hq, decide_eq_false (fun c => by rw [c] at hx hy; rcases e with e | e; exact e hx; exact e hy)] at this; rw [this]; rfl
          clear hq hx hy; go_wp2_with fail; refine hsum.mono ?_; rintro e w1 ⟨rfl, hb⟩; have hB1 := jq2 hB hb; go_wp2_with fail
          all_goals (
            go_ret
            first
            | exact ⟨jq8 (H3.out (by assumption) (by assumption)), hB1.alloc hB1.size _⟩
            | exact ⟨jq8 (H3.out rfl rfl), hB1.alloc hB1.size _⟩
            | exact ⟨jq8 (H4.out (.inl (by assumption))), hB1.alloc hB1.size _⟩
            | exact ⟨jq8 (H4.out (.inr (by assumption))), hB1.alloc hB1.size _⟩)
end Go.Proofs.Ytaehemmjemhgpaa
