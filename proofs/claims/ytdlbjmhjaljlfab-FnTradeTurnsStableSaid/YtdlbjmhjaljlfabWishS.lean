/- Whether lists of wishes are valid, by the model. Condition: at most 1048576 lists. -/
import Derived.Test.YtdlbjmhjaljlfabWish
import Derived.Test.YtdlbjmhjaljlfabBase
import Derived.Test.YtdlbjmhjaljlfabRead
import Derived.Deep.RegionHeld3
import Derived.Deep.QuietTactic
namespace Go.Proofs.Ytdlbjmhjaljlfab
open Go.RowKit
set_option linter.unusedSimpArgs false
set_option linter.unusedVariables false
theorem ord_no {n : Nat} {r : List Int} {k : Nat} (hk : k < r.length) (h : okW n r k = false) : ordB n r = false := by
  unfold ordB
  rw [Bool.and_eq_false_iff]
  exact .inr (rng_no hk h)
theorem ord_len {n : Nat} {r : List Int} (h : r.length ≠ n) : ordB n r = false := by unfold ordB; rw [decide_eq_false h]; rfl
theorem ord_yes {n : Nat} {r : List Int} (h : r.length = n) (h2 : ∀ k, k < r.length → okW n r k = true) : ordB n r = true := by
  unfold ordB; rw [decide_eq_true h, rng_yes h2]; rfl
theorem okW_yes {n : Nat} {r : List Int} {k : Nat} (h1 : 0 ≤ r.getD k 0) (h2 : r.getD k 0 < (n : Int)) (h3 : r.getD k 0 ∉ r.take k) : okW n r k = true := by
  unfold okW; rw [decide_eq_true h1, decide_eq_true h2, decide_eq_true h3]; rfl
theorem okW_no1 {n : Nat} {r : List Int} {k : Nat} (h : r.getD k 0 < 0 ∨ (n : Int) ≤ r.getD k 0) : okW n r k = false := by
  unfold okW
  rcases h with h | h
  · rw [decide_eq_false (by omega)]; rfl
  · rw [decide_eq_false (by omega : ¬ r.getD k 0 < (n : Int)), Bool.and_false]; rfl
theorem okW_no2 {n : Nat} {r : List Int} {k : Nat} (h : r.getD k 0 ∈ r.take k) : okW n r k = false := by
  unfold okW
  rw [decide_eq_false (show ¬ (r.getD k 0 ∉ r.take k) from fun c => c h), Bool.and_false]
theorem ints_takeC {w : World} {g o : Nat} {r : List Int} (h : ∀ i, i < r.length → w.cell? ⟨g, o + i, none⟩ = some (.int .i64 (r.getD i 0))) (k : Nat) : IsInts w (some ⟨g, o, none⟩) (r.take k) := by
  refine .inr ⟨g, o, rfl, fun i hi => ?_⟩
  rw [List.length_take] at hi
  have hik : i < k := by omega
  have := h i (by omega)
  rw [this]
  congr 2
  rw [List.getD_eq_getElem?_getD, List.getD_eq_getElem?_getD, List.getElem?_take, if_pos hik]

set_option maxRecDepth 100000 in
set_option maxHeartbeats 6000000 in
theorem svw (a : Option Addr) (cap : Nat) (rs : List (List Int)) (w : World) (h : IsRows w a rs) (hn : rs.length ≤ 1048576) :
    Calls Try.prog 43 #[.slice a rs.length cap] w fun e w' => e = .returned (.bool (wishB rs)) ∧ Below w.heap.size w w' := by
  have HI := Lib.hid h
  clear h
  go_enter Try.func43, Try.ntmps43
  go_wp2_with fail
  go_loopw [3] (fun iv wr => ∃ i : Nat, i ≤ rs.length ∧ iv = .int .i64 i ∧ (∀ j, j < i → ordB rs.length (rs.getD j []) = true) ∧ Below w.heap.size w wr) (fun iv _ => rs.length - (intOf iv).toNat)
  case atStart => exact ⟨0, Nat.zero_le _, rfl, fun j hj => absurd hj (Nat.not_lt_zero _), Below.refl _ _⟩
  case round =>
    obtain ⟨i, hi, rfl, hall, B⟩ := hrel
    by_cases hlt : i < rs.length
    · have hcl : IsRows wr a rs := rows_below HI.out B
      rcases hcl with rfl | ⟨g, o, rfl, hc⟩
      · simp at hlt
      obtain ⟨A, cp, c0, hlc, hin⟩ := hc i hlt
      have HA := Lib.hid hall
      have i0 : (0 : Int) ≤ (i : Int) := by omega
      have i1 : (i : Int) < (rs.length : Int) := by omega
      clear hall hc
      by_cases hm : (rs.getD i []).length = rs.length
      · obtain ⟨r, hr⟩ : ∃ r, rs.getD i [] = r := ⟨_, rfl⟩
        have HR := Lib.hid hr
        rw [hr] at c0 hlc hin hm
        rw [hm] at c0
        have HM := Lib.hid hm
        rcases hin with rfl | ⟨ga, oa, rfl, hcr⟩
        · exact absurd hm (by show ¬ (0 : Nat) = rs.length; omega)
        have HC := Lib.hid hcr
        have HC0 := Lib.hid c0
        have W0 := Lib.hid B
        have hcp : rs.length ≤ cp := by omega
        clear hr hm hcr B
        go_wp2_with fail
        obtain ⟨V, hV⟩ : ∃ V, V = wr := ⟨_, rfl⟩
        subst hV
        go_loopw [4] (fun kv wr => ∃ k : Nat, k ≤ rs.length ∧ kv = .int .i64 k ∧ (∀ j, j < k → okW rs.length r j = true) ∧ Below V.heap.size V wr) (fun kv _ => rs.length - (intOf kv).toNat)
        case atStart => exact ⟨0, Nat.zero_le _, rfl, fun j hj => absurd hj (Nat.not_lt_zero _), Below.refl _ _⟩
        case round =>
          obtain ⟨k, hk, rfl, hok, B⟩ := hrel
          have c0 := (B.cell (World.block_lt_of_cell? V _ HC0.out)).trans HC0.out
          by_cases hlk : k < rs.length
          · have hkr : k < r.length := by rw [HM.out]; exact hlk
            have c1 := (B.cell (World.block_lt_of_cell? V _ (HC.out k hkr))).trans (HC.out k hkr)
            have IT : ∀ {W : World}, (W.cell? ⟨g, o + i, none⟩ = some (.slice (some ⟨ga, oa, none⟩) rs.length cp) ∧ W.cell? ⟨ga, oa + k, none⟩ = some (.int .i64 (r.getD k 0)) ∧ W.cell? ⟨ga, oa + k, none⟩ = some (.int .i64 (r.getD k 0))) ∧ Below wr.heap.size wr W → IsInts W (some ⟨ga, oa, none⟩) (r.take k) := fun hH => ints_below (ints_below (ints_takeC HC.out k) B) hH.2
            have HTL : Hid ((r.take k).length = k) := by show (r.take k).length = k; rw [List.length_take]; omega
            have HOK := Lib.hid hok
            have HKR := Lib.hid hkr
            have k0 : (0 : Int) ≤ (k : Int) := by omega
            have k1 : (k : Int) < (rs.length : Int) := by omega
            have kc : (k : Int) ≤ (cp : Int) := by omega
            have kn : k ≤ cp := by omega
            have wn : IntKind.i64.wrap ((rs.length : Int) - 1) = (rs.length : Int) - 1 := by rw [IntKind.wrap_i64]; omega
            obtain ⟨x, hx⟩ : ∃ x, r.getD k 0 = x := ⟨_, rfl⟩
            have HX := Lib.hid hx
            rw [hx] at c1 IT
            have HB := Lib.hid B
            clear hok hkr hx B
            by_cases hr0 : 0 ≤ x ∧ x ≤ (rs.length : Int) - 1
            · have CR := fun W => inRange_yes x 0 ((rs.length : Int) - 1) W hr0.1 hr0.2
              by_cases hmem : x ∈ r.take k
              · have HN := Lib.hid (wish_no2 hlt (by rw [HR.out]; exact ord_no HKR.out (okW_no2 (by rw [HX.out]; exact hmem))))
                go_wp2_with fail
                refine wp_region_held_drew (S := (fun w' => (w'.cell? ⟨g, o + i, none⟩ = some (.slice (some ⟨ga, oa, none⟩) rs.length cp) ∧ w'.cell? ⟨ga, oa + k, none⟩ = some (.int .i64 x) ∧ w'.cell? ⟨ga, oa + k, none⟩ = some (.int .i64 x)) ∧ Below wr.heap.size wr w')) (by kernel_rfl) ?_ (fun hHeld => ?_)
                · exact ⟨⟨c0, c1, c1⟩, (Below.refl _ _).drew⟩
                refine wpAnyH_take (i := 0) (oi := ?ooa0) (v := ?vva0) ?hia0 (by kernel_rfl) ?h3a0 ?h4a0 ?h5a0 ?h6a0 (by assumption) ?h8a0
                case hia0 => (simp only [List.getElem?_toArray, List.getElem?_cons_succ, List.getElem?_cons_zero]; rfl)
                case h3a0 => kernel_rfl
                case h4a0 => kernel_rfl
                case h6a0 => (refine Or.inl ⟨by rfl, ?_⟩; intro w hSw; (try dsimp only at hSw); (go_simp <;> with_reducible rfl))
                case h5a0 => exact fun _ _ _ h => h
                try simp only [Act.put, List.setIfInBounds_toArray, List.set_cons_zero, List.set_cons_succ]
                refine wpAnyH_take (i := 1) (oi := ?ooa1) (v := ?vva1) ?hia1 (by kernel_rfl) ?h3a1 ?h4a1 ?h5a1 ?h6a1 (by assumption) ?h8a1
                case hia1 => (simp only [List.getElem?_toArray, List.getElem?_cons_succ, List.getElem?_cons_zero]; rfl)
                case h3a1 => kernel_rfl
                case h4a1 => kernel_rfl
                case h6a1 => (refine Or.inl ⟨by rfl, ?_⟩; intro w hSw; (try dsimp only at hSw); (go_simp <;> with_reducible rfl))
                case h5a1 => exact fun _ _ _ h => h
                try simp only [Act.put, List.setIfInBounds_toArray, List.set_cons_zero, List.set_cons_succ]
                refine wpAnyH_take (i := 2) (oi := ?ooa2) (v := ?vva2) ?hia2 (by kernel_rfl) ?h3a2 ?h4a2 ?h5a2 ?h6a2 (by assumption) ?h8a2
                case hia2 => (simp only [List.getElem?_toArray, List.getElem?_cons_succ, List.getElem?_cons_zero]; rfl)
                case h3a2 => kernel_rfl
                case h4a2 => kernel_rfl
                case h6a2 => (refine Or.inl ⟨by rfl, ?_⟩; intro w hSw; (try dsimp only at hSw); (go_simp <;> with_reducible rfl))
                case h5a2 => exact fun _ _ _ h => h
                try simp only [Act.put, List.setIfInBounds_toArray, List.set_cons_zero, List.set_cons_succ]
                refine wpAnyH_take (i := 3) (oi := ?ooa3) (v := ?vva3) ?hia3 (by kernel_rfl) ?h3a3 ?h4a3 ?h5a3 ?h6a3 (by assumption) ?h8a3
                case hia3 => (simp only [List.getElem?_toArray, List.getElem?_cons_succ, List.getElem?_cons_zero]; rfl)
                case h3a3 => kernel_rfl
                case h4a3 => kernel_rfl
                case h6a3 => (refine Or.inl ⟨by rfl, ?_⟩; intro w hSw; (try dsimp only at hSw); (go_simp <;> with_reducible rfl))
                case h5a3 => exact fun _ _ _ h => h
                try simp only [Act.put, List.setIfInBounds_toArray, List.set_cons_zero, List.set_cons_succ]
                refine wpAnyH_take (i := 4) (oi := ?ooa4) (v := ?vva4) ?hia4 (by kernel_rfl) ?h3a4 ?h4a4 ?h5a4 ?h6a4 (by assumption) ?h8a4
                case hia4 => (simp only [List.getElem?_toArray, List.getElem?_cons_succ, List.getElem?_cons_zero]; rfl)
                case h3a4 => kernel_rfl
                case h4a4 => kernel_rfl
                case h6a4 => (refine Or.inl ⟨by rfl, ?_⟩; intro w hSw; (try dsimp only at hSw); (go_simp <;> with_reducible rfl))
                case h5a4 => exact fun _ _ _ h => h
                try simp only [Act.put, List.setIfInBounds_toArray, List.set_cons_zero, List.set_cons_succ]
                refine wpAnyH_take (i := 5) (oi := ?ooa5) (v := ?vva5) ?hia5 (by kernel_rfl) ?h3a5 ?h4a5 ?h5a5 ?h6a5 (by assumption) ?h8a5
                case hia5 => (simp only [List.getElem?_toArray, List.getElem?_cons_succ, List.getElem?_cons_zero]; rfl)
                case h3a5 => kernel_rfl
                case h4a5 => kernel_rfl
                case h6a5 => (refine Or.inl ⟨by rfl, ?_⟩; intro w hSw; (try dsimp only at hSw); (go_simp <;> with_reducible rfl))
                case h5a5 => exact fun _ _ _ h => h
                try simp only [Act.put, List.setIfInBounds_toArray, List.set_cons_zero, List.set_cons_succ]
                refine wpAnyH_take (i := 6) (oi := ?ooa6) (v := ?vva6) ?hia6 (by kernel_rfl) ?h3a6 ?h4a6 ?h5a6 ?h6a6 (by assumption) ?h8a6
                case hia6 => (simp only [List.getElem?_toArray, List.getElem?_cons_succ, List.getElem?_cons_zero]; rfl)
                case h3a6 => kernel_rfl
                case h4a6 => kernel_rfl
                case h6a6 => (refine Or.inl ⟨by rfl, ?_⟩; intro w hSw; (try dsimp only at hSw); (go_simp <;> with_reducible rfl))
                case h5a6 => exact fun _ _ _ h => h
                try simp only [Act.put, List.setIfInBounds_toArray, List.set_cons_zero, List.set_cons_succ]
                refine wpAnyH_take (i := 7) (oi := ?ooa7) (v := ?vva7) ?hia7 (by kernel_rfl) ?h3a7 ?h4a7 ?h5a7 ?h6a7 (by assumption) ?h8a7
                case hia7 => (simp only [List.getElem?_toArray, List.getElem?_cons_succ, List.getElem?_cons_zero]; rfl)
                case h3a7 => kernel_rfl
                case h4a7 => kernel_rfl
                case h6a7 => (refine Or.inl ⟨by rfl, ?_⟩; intro w hSw; (try dsimp only at hSw); (go_simp <;> with_reducible rfl))
                case h5a7 => exact fun _ _ _ h => h
                try simp only [Act.put, List.setIfInBounds_toArray, List.set_cons_zero, List.set_cons_succ]
                refine wpAnyH_take (i := 8) (oi := ?ooa8) (v := ?vva8) ?hia8 (by kernel_rfl) ?h3a8 ?h4a8 ?h5a8 ?h6a8 (by assumption) ?h8a8
                case hia8 => (simp only [List.getElem?_toArray, List.getElem?_cons_succ, List.getElem?_cons_zero]; rfl)
                case h3a8 => kernel_rfl
                case h4a8 => kernel_rfl
                case h6a8 => (refine Or.inl ⟨by rfl, ?_⟩; intro w hSw; (try dsimp only at hSw); (go_simp <;> with_reducible rfl))
                case h5a8 => exact fun _ _ _ h => h
                try simp only [Act.put, List.setIfInBounds_toArray, List.set_cons_zero, List.set_cons_succ]
                refine wpAnyH_take (i := 9) (oi := ?ooa9) (v := ?vva9) ?hia9 (by kernel_rfl) ?h3a9 ?h4a9 ?h5a9 ?h6a9 (by assumption) ?h8a9
                case hia9 => (simp only [List.getElem?_toArray, List.getElem?_cons_succ, List.getElem?_cons_zero]; rfl)
                case h3a9 => kernel_rfl
                case h4a9 => kernel_rfl
                case h6a9 => (refine Or.inl ⟨by rfl, ?_⟩; intro w hSw; (try dsimp only at hSw); (go_simp <;> with_reducible rfl))
                case h5a9 => exact fun _ _ _ h => h
                try simp only [Act.put, List.setIfInBounds_toArray, List.set_cons_zero, List.set_cons_succ]
                refine wpAnyH_ready (rs := [10]) (by kernel_rfl) (by simp) (AllReadyH.cons (o := ?ooa10) ?hia10 (fun K hK => ?hka10) AllReadyH.nil)
                rotate_left
                case hia10 => (simp only [List.getElem?_toArray, List.getElem?_cons_succ, List.getElem?_cons_zero]; rfl)
                (rw [if_pos (by rfl)]; go_simp; refine (CR _).mono ?_; rintro e W5 ⟨rfl, rfl⟩; go_wp2_with fail; refine hK.out _ _ (hHeld) (fun hHeld => ?_); clear hK K)
                try simp only [Act.put, List.setIfInBounds_toArray, List.set_cons_zero, List.set_cons_succ]
                refine wpAnyH_take (i := 11) (oi := ?ooa11) (v := ?vva11) ?hia11 (by kernel_rfl) ?h3a11 ?h4a11 ?h5a11 ?h6a11 (by assumption) ?h8a11
                case hia11 => (simp only [List.getElem?_toArray, List.getElem?_cons_succ, List.getElem?_cons_zero]; rfl)
                case h3a11 => kernel_rfl
                case h4a11 => kernel_rfl
                case h6a11 => (refine Or.inl ⟨by rfl, ?_⟩; intro w hSw; (try dsimp only at hSw); (go_simp <;> with_reducible rfl))
                case h5a11 => exact fun _ _ _ h => h
                try simp only [Act.put, List.setIfInBounds_toArray, List.set_cons_zero, List.set_cons_succ]
                refine wpAnyH_take (i := 12) (oi := ?ooa12) (v := ?vva12) ?hia12 (by kernel_rfl) ?h3a12 ?h4a12 ?h5a12 ?h6a12 (by assumption) ?h8a12
                case hia12 => (simp only [List.getElem?_toArray, List.getElem?_cons_succ, List.getElem?_cons_zero]; rfl)
                case h3a12 => kernel_rfl
                case h4a12 => kernel_rfl
                case h6a12 => (refine Or.inl ⟨by rfl, ?_⟩; intro w hSw; (try dsimp only at hSw); (go_simp <;> with_reducible rfl))
                case h5a12 => exact fun _ _ _ h => h
                try simp only [Act.put, List.setIfInBounds_toArray, List.set_cons_zero, List.set_cons_succ]
                refine wpAnyH_take (i := 13) (oi := ?ooa13) (v := ?vva13) ?hia13 (by kernel_rfl) ?h3a13 ?h4a13 ?h5a13 ?h6a13 (by assumption) ?h8a13
                case hia13 => (simp only [List.getElem?_toArray, List.getElem?_cons_succ, List.getElem?_cons_zero]; rfl)
                case h3a13 => kernel_rfl
                case h4a13 => kernel_rfl
                case h6a13 => (refine Or.inl ⟨by rfl, ?_⟩; intro w hSw; (try dsimp only at hSw); (go_simp <;> with_reducible rfl))
                case h5a13 => exact fun _ _ _ h => h
                try simp only [Act.put, List.setIfInBounds_toArray, List.set_cons_zero, List.set_cons_succ]
                refine wpAnyH_take (i := 14) (oi := ?ooa14) (v := ?vva14) ?hia14 (by kernel_rfl) ?h3a14 ?h4a14 ?h5a14 ?h6a14 (by assumption) ?h8a14
                case hia14 => (simp only [List.getElem?_toArray, List.getElem?_cons_succ, List.getElem?_cons_zero]; rfl)
                case h3a14 => kernel_rfl
                case h4a14 => kernel_rfl
                case h6a14 => (refine Or.inl ⟨by rfl, ?_⟩; intro w hSw; (try dsimp only at hSw); (go_simp <;> with_reducible rfl))
                case h5a14 => exact fun _ _ _ h => h
                try simp only [Act.put, List.setIfInBounds_toArray, List.set_cons_zero, List.set_cons_succ]
                refine wpAnyH_take (i := 15) (oi := ?ooa15) (v := ?vva15) ?hia15 (by kernel_rfl) ?h3a15 ?h4a15 ?h5a15 ?h6a15 (by assumption) ?h8a15
                case hia15 => (simp only [List.getElem?_toArray, List.getElem?_cons_succ, List.getElem?_cons_zero]; rfl)
                case h3a15 => kernel_rfl
                case h4a15 => kernel_rfl
                case h6a15 => (refine Or.inl ⟨by rfl, ?_⟩; intro w hSw; (try dsimp only at hSw); (go_simp <;> with_reducible rfl))
                case h5a15 => exact fun _ _ _ h => h
                try simp only [Act.put, List.setIfInBounds_toArray, List.set_cons_zero, List.set_cons_succ]
                refine wpAnyH_take (i := 16) (oi := ?ooa16) (v := ?vva16) ?hia16 (by kernel_rfl) ?h3a16 ?h4a16 ?h5a16 ?h6a16 (by assumption) ?h8a16
                case hia16 => (simp only [List.getElem?_toArray, List.getElem?_cons_succ, List.getElem?_cons_zero]; rfl)
                case h3a16 => kernel_rfl
                case h4a16 => kernel_rfl
                case h6a16 => (refine Or.inl ⟨by rfl, ?_⟩; intro w hSw; (try dsimp only at hSw); (go_simp <;> with_reducible rfl))
                case h5a16 => exact fun _ _ _ h => h
                try simp only [Act.put, List.setIfInBounds_toArray, List.set_cons_zero, List.set_cons_succ]
                refine wpAnyH_take (i := 17) (oi := ?ooa17) (v := ?vva17) ?hia17 (by kernel_rfl) ?h3a17 ?h4a17 ?h5a17 ?h6a17 (by assumption) ?h8a17
                case hia17 => (simp only [List.getElem?_toArray, List.getElem?_cons_succ, List.getElem?_cons_zero]; rfl)
                case h3a17 => kernel_rfl
                case h4a17 => kernel_rfl
                case h6a17 => (refine Or.inl ⟨by rfl, ?_⟩; intro w hSw; (try dsimp only at hSw); (go_simp <;> with_reducible rfl))
                case h5a17 => exact fun _ _ _ h => h
                try simp only [Act.put, List.setIfInBounds_toArray, List.set_cons_zero, List.set_cons_succ]
                refine wpAnyH_take (i := 18) (oi := ?ooa18) (v := ?vva18) ?hia18 (by kernel_rfl) ?h3a18 ?h4a18 ?h5a18 ?h6a18 (by assumption) ?h8a18
                case hia18 => (simp only [List.getElem?_toArray, List.getElem?_cons_succ, List.getElem?_cons_zero]; rfl)
                case h3a18 => kernel_rfl
                case h4a18 => kernel_rfl
                case h6a18 => (refine Or.inl ⟨by rfl, ?_⟩; intro w hSw; (try dsimp only at hSw); (go_simp <;> with_reducible rfl))
                case h5a18 => exact fun _ _ _ h => h
                try simp only [Act.put, List.setIfInBounds_toArray, List.set_cons_zero, List.set_cons_succ]
                refine wpAnyH_take (i := 19) (oi := ?ooa19) (v := ?vva19) ?hia19 (by kernel_rfl) ?h3a19 ?h4a19 ?h5a19 ?h6a19 (by assumption) ?h8a19
                case hia19 => (simp only [List.getElem?_toArray, List.getElem?_cons_succ, List.getElem?_cons_zero]; rfl)
                case h3a19 => kernel_rfl
                case h4a19 => kernel_rfl
                case h6a19 => (refine Or.inl ⟨by rfl, ?_⟩; intro w hSw; (try dsimp only at hSw); (go_simp <;> with_reducible rfl))
                case h5a19 => exact fun _ _ _ h => h
                try simp only [Act.put, List.setIfInBounds_toArray, List.set_cons_zero, List.set_cons_succ]
                refine wpAnyH_take (i := 20) (oi := ?ooa20) (v := ?vva20) ?hia20 (by kernel_rfl) ?h3a20 ?h4a20 ?h5a20 ?h6a20 (by assumption) ?h8a20
                case hia20 => (simp only [List.getElem?_toArray, List.getElem?_cons_succ, List.getElem?_cons_zero]; rfl)
                case h3a20 => kernel_rfl
                case h4a20 => kernel_rfl
                case h6a20 => (refine Or.inl ⟨by rfl, ?_⟩; intro w hSw; (try dsimp only at hSw); (go_simp <;> with_reducible rfl))
                case h5a20 => exact fun _ _ _ h => h
                try simp only [Act.put, List.setIfInBounds_toArray, List.set_cons_zero, List.set_cons_succ]
                refine wpAnyH_take (i := 21) (oi := ?ooa21) (v := ?vva21) ?hia21 (by kernel_rfl) ?h3a21 ?h4a21 ?h5a21 ?h6a21 (by assumption) ?h8a21
                case hia21 => (simp only [List.getElem?_toArray, List.getElem?_cons_succ, List.getElem?_cons_zero]; rfl)
                case h3a21 => kernel_rfl
                case h4a21 => kernel_rfl
                case h6a21 => (refine Or.inl ⟨by rfl, ?_⟩; intro w hSw; (try dsimp only at hSw); (go_simp <;> with_reducible rfl))
                case h5a21 => exact fun _ _ _ h => h
                try simp only [Act.put, List.setIfInBounds_toArray, List.set_cons_zero, List.set_cons_succ]
                refine wpAnyH_take (i := 22) (oi := ?ooa22) (v := ?vva22) ?hia22 (by kernel_rfl) ?h3a22 ?h4a22 ?h5a22 ?h6a22 (by assumption) ?h8a22
                case hia22 => (simp only [List.getElem?_toArray, List.getElem?_cons_succ, List.getElem?_cons_zero]; rfl)
                case h3a22 => kernel_rfl
                case h4a22 => kernel_rfl
                case h6a22 => (refine Or.inl ⟨by rfl, ?_⟩; intro w hSw; (try dsimp only at hSw); (go_simp <;> with_reducible rfl))
                case h5a22 => exact fun _ _ _ h => h
                try simp only [Act.put, List.setIfInBounds_toArray, List.set_cons_zero, List.set_cons_succ]
                refine wpAnyH_take (i := 23) (oi := ?ooa23) (v := ?vva23) ?hia23 (by kernel_rfl) ?h3a23 ?h4a23 ?h5a23 ?h6a23 (by assumption) ?h8a23
                case hia23 => (simp only [List.getElem?_toArray, List.getElem?_cons_succ, List.getElem?_cons_zero]; rfl)
                case h3a23 => kernel_rfl
                case h4a23 => kernel_rfl
                case h6a23 => (refine Or.inl ⟨by rfl, ?_⟩; intro w hSw; (try dsimp only at hSw); (go_simp <;> with_reducible rfl))
                case h5a23 => exact fun _ _ _ h => h
                try simp only [Act.put, List.setIfInBounds_toArray, List.set_cons_zero, List.set_cons_succ]
                refine wpAnyH_take (i := 24) (oi := ?ooa24) (v := ?vva24) ?hia24 (by kernel_rfl) ?h3a24 ?h4a24 ?h5a24 ?h6a24 (by assumption) ?h8a24
                case hia24 => (simp only [List.getElem?_toArray, List.getElem?_cons_succ, List.getElem?_cons_zero]; rfl)
                case h3a24 => kernel_rfl
                case h4a24 => kernel_rfl
                case h6a24 => (refine Or.inl ⟨by rfl, ?_⟩; intro w hSw; (try dsimp only at hSw); (go_simp <;> with_reducible rfl))
                case h5a24 => exact fun _ _ _ h => h
                try simp only [Act.put, List.setIfInBounds_toArray, List.set_cons_zero, List.set_cons_succ]
                refine wpAnyH_take (i := 25) (oi := ?ooa25) (v := ?vva25) ?hia25 (by kernel_rfl) ?h3a25 ?h4a25 ?h5a25 ?h6a25 (by assumption) ?h8a25
                case hia25 => (simp only [List.getElem?_toArray, List.getElem?_cons_succ, List.getElem?_cons_zero]; rfl)
                case h3a25 => kernel_rfl
                case h4a25 => kernel_rfl
                case h6a25 => (refine Or.inl ⟨by rfl, ?_⟩; intro w hSw; (try dsimp only at hSw); (go_simp <;> with_reducible rfl))
                case h5a25 => exact fun _ _ _ h => h
                try simp only [Act.put, List.setIfInBounds_toArray, List.set_cons_zero, List.set_cons_succ]
                refine wpAnyH_ready (rs := [26]) (by kernel_rfl) (by simp) (AllReadyH.cons (o := ?ooa26) ?hia26 (fun K hK => ?hka26) AllReadyH.nil)
                rotate_left
                case hia26 => (simp only [List.getElem?_toArray, List.getElem?_cons_succ, List.getElem?_cons_zero]; rfl)
                (rw [if_pos (by rfl)]; go_simp; refine (splace (some ⟨ga, oa, none⟩) cp k (r.take k) x _ (IT hHeld) HTL.out (by omega)).mono ?_; rintro e W6 ⟨pv, rfl, p1, p2, rfl⟩; have pz : decide (0 ≤ pv) = true := decide_eq_true (p1 hmem); clear p1 p2; go_wp2_with fail; refine hK.out _ _ (hHeld) (fun hHeld => ?_); clear hK K)
                try simp only [Act.put, List.setIfInBounds_toArray, List.set_cons_zero, List.set_cons_succ]
                refine wpAnyH_take (i := 27) (oi := ?ooa27) (v := ?vva27) ?hia27 (by kernel_rfl) ?h3a27 ?h4a27 ?h5a27 ?h6a27 (by assumption) ?h8a27
                case hia27 => (simp only [List.getElem?_toArray, List.getElem?_cons_succ, List.getElem?_cons_zero]; rfl)
                case h3a27 => kernel_rfl
                case h4a27 => kernel_rfl
                case h6a27 => (refine Or.inl ⟨by rfl, ?_⟩; intro w hSw; (try dsimp only at hSw); (go_simp <;> with_reducible rfl))
                case h5a27 => exact fun _ _ _ h => h
                try simp only [Act.put, List.setIfInBounds_toArray, List.set_cons_zero, List.set_cons_succ]
                refine wpAnyH_take (i := 28) (oi := ?ooa28) (v := ?vva28) ?hia28 (by kernel_rfl) ?h3a28 ?h4a28 ?h5a28 ?h6a28 (by assumption) ?h8a28
                case hia28 => (simp only [List.getElem?_toArray, List.getElem?_cons_succ, List.getElem?_cons_zero]; rfl)
                case h3a28 => kernel_rfl
                case h4a28 => kernel_rfl
                case h6a28 => (refine Or.inl ⟨by rfl, ?_⟩; intro w hSw; (try dsimp only at hSw); (go_simp <;> with_reducible rfl))
                case h5a28 => exact fun _ _ _ h => h
                try simp only [Act.put, List.setIfInBounds_toArray, List.set_cons_zero, List.set_cons_succ]
                refine wpAnyH_done (by kernel_rfl) ?_ _
                have B := bel_tr W0.out (bel_tr HB.out (And.right (by assumption)))
                go_wp2_with fail
                go_ret
                exact ⟨ret_bool HN.out.symm, B⟩
              · have H2 : Hid (∀ j, j < k + 1 → okW rs.length r j = true) := fun j hj => by
                  by_cases c : j = k
                  · subst c
                    exact okW_yes (by rw [HX.out]; exact hr0.1) (by rw [HX.out]; omega) (by rw [HX.out]; exact hmem)
                  · exact HOK.out j (by omega)
                go_wp2_with fail
                refine wp_region_held_drew (S := (fun w' => (w'.cell? ⟨g, o + i, none⟩ = some (.slice (some ⟨ga, oa, none⟩) rs.length cp) ∧ w'.cell? ⟨ga, oa + k, none⟩ = some (.int .i64 x) ∧ w'.cell? ⟨ga, oa + k, none⟩ = some (.int .i64 x)) ∧ Below wr.heap.size wr w')) (by kernel_rfl) ?_ (fun hHeld => ?_)
                · exact ⟨⟨c0, c1, c1⟩, (Below.refl _ _).drew⟩
                refine wpAnyH_take (i := 0) (oi := ?oob0) (v := ?vvb0) ?hib0 (by kernel_rfl) ?h3b0 ?h4b0 ?h5b0 ?h6b0 (by assumption) ?h8b0
                case hib0 => (simp only [List.getElem?_toArray, List.getElem?_cons_succ, List.getElem?_cons_zero]; rfl)
                case h3b0 => kernel_rfl
                case h4b0 => kernel_rfl
                case h6b0 => (refine Or.inl ⟨by rfl, ?_⟩; intro w hSw; (try dsimp only at hSw); (go_simp <;> with_reducible rfl))
                case h5b0 => exact fun _ _ _ h => h
                try simp only [Act.put, List.setIfInBounds_toArray, List.set_cons_zero, List.set_cons_succ]
                refine wpAnyH_take (i := 1) (oi := ?oob1) (v := ?vvb1) ?hib1 (by kernel_rfl) ?h3b1 ?h4b1 ?h5b1 ?h6b1 (by assumption) ?h8b1
                case hib1 => (simp only [List.getElem?_toArray, List.getElem?_cons_succ, List.getElem?_cons_zero]; rfl)
                case h3b1 => kernel_rfl
                case h4b1 => kernel_rfl
                case h6b1 => (refine Or.inl ⟨by rfl, ?_⟩; intro w hSw; (try dsimp only at hSw); (go_simp <;> with_reducible rfl))
                case h5b1 => exact fun _ _ _ h => h
                try simp only [Act.put, List.setIfInBounds_toArray, List.set_cons_zero, List.set_cons_succ]
                refine wpAnyH_take (i := 2) (oi := ?oob2) (v := ?vvb2) ?hib2 (by kernel_rfl) ?h3b2 ?h4b2 ?h5b2 ?h6b2 (by assumption) ?h8b2
                case hib2 => (simp only [List.getElem?_toArray, List.getElem?_cons_succ, List.getElem?_cons_zero]; rfl)
                case h3b2 => kernel_rfl
                case h4b2 => kernel_rfl
                case h6b2 => (refine Or.inl ⟨by rfl, ?_⟩; intro w hSw; (try dsimp only at hSw); (go_simp <;> with_reducible rfl))
                case h5b2 => exact fun _ _ _ h => h
                try simp only [Act.put, List.setIfInBounds_toArray, List.set_cons_zero, List.set_cons_succ]
                refine wpAnyH_take (i := 3) (oi := ?oob3) (v := ?vvb3) ?hib3 (by kernel_rfl) ?h3b3 ?h4b3 ?h5b3 ?h6b3 (by assumption) ?h8b3
                case hib3 => (simp only [List.getElem?_toArray, List.getElem?_cons_succ, List.getElem?_cons_zero]; rfl)
                case h3b3 => kernel_rfl
                case h4b3 => kernel_rfl
                case h6b3 => (refine Or.inl ⟨by rfl, ?_⟩; intro w hSw; (try dsimp only at hSw); (go_simp <;> with_reducible rfl))
                case h5b3 => exact fun _ _ _ h => h
                try simp only [Act.put, List.setIfInBounds_toArray, List.set_cons_zero, List.set_cons_succ]
                refine wpAnyH_take (i := 4) (oi := ?oob4) (v := ?vvb4) ?hib4 (by kernel_rfl) ?h3b4 ?h4b4 ?h5b4 ?h6b4 (by assumption) ?h8b4
                case hib4 => (simp only [List.getElem?_toArray, List.getElem?_cons_succ, List.getElem?_cons_zero]; rfl)
                case h3b4 => kernel_rfl
                case h4b4 => kernel_rfl
                case h6b4 => (refine Or.inl ⟨by rfl, ?_⟩; intro w hSw; (try dsimp only at hSw); (go_simp <;> with_reducible rfl))
                case h5b4 => exact fun _ _ _ h => h
                try simp only [Act.put, List.setIfInBounds_toArray, List.set_cons_zero, List.set_cons_succ]
                refine wpAnyH_take (i := 5) (oi := ?oob5) (v := ?vvb5) ?hib5 (by kernel_rfl) ?h3b5 ?h4b5 ?h5b5 ?h6b5 (by assumption) ?h8b5
                case hib5 => (simp only [List.getElem?_toArray, List.getElem?_cons_succ, List.getElem?_cons_zero]; rfl)
                case h3b5 => kernel_rfl
                case h4b5 => kernel_rfl
                case h6b5 => (refine Or.inl ⟨by rfl, ?_⟩; intro w hSw; (try dsimp only at hSw); (go_simp <;> with_reducible rfl))
                case h5b5 => exact fun _ _ _ h => h
                try simp only [Act.put, List.setIfInBounds_toArray, List.set_cons_zero, List.set_cons_succ]
                refine wpAnyH_take (i := 6) (oi := ?oob6) (v := ?vvb6) ?hib6 (by kernel_rfl) ?h3b6 ?h4b6 ?h5b6 ?h6b6 (by assumption) ?h8b6
                case hib6 => (simp only [List.getElem?_toArray, List.getElem?_cons_succ, List.getElem?_cons_zero]; rfl)
                case h3b6 => kernel_rfl
                case h4b6 => kernel_rfl
                case h6b6 => (refine Or.inl ⟨by rfl, ?_⟩; intro w hSw; (try dsimp only at hSw); (go_simp <;> with_reducible rfl))
                case h5b6 => exact fun _ _ _ h => h
                try simp only [Act.put, List.setIfInBounds_toArray, List.set_cons_zero, List.set_cons_succ]
                refine wpAnyH_take (i := 7) (oi := ?oob7) (v := ?vvb7) ?hib7 (by kernel_rfl) ?h3b7 ?h4b7 ?h5b7 ?h6b7 (by assumption) ?h8b7
                case hib7 => (simp only [List.getElem?_toArray, List.getElem?_cons_succ, List.getElem?_cons_zero]; rfl)
                case h3b7 => kernel_rfl
                case h4b7 => kernel_rfl
                case h6b7 => (refine Or.inl ⟨by rfl, ?_⟩; intro w hSw; (try dsimp only at hSw); (go_simp <;> with_reducible rfl))
                case h5b7 => exact fun _ _ _ h => h
                try simp only [Act.put, List.setIfInBounds_toArray, List.set_cons_zero, List.set_cons_succ]
                refine wpAnyH_take (i := 8) (oi := ?oob8) (v := ?vvb8) ?hib8 (by kernel_rfl) ?h3b8 ?h4b8 ?h5b8 ?h6b8 (by assumption) ?h8b8
                case hib8 => (simp only [List.getElem?_toArray, List.getElem?_cons_succ, List.getElem?_cons_zero]; rfl)
                case h3b8 => kernel_rfl
                case h4b8 => kernel_rfl
                case h6b8 => (refine Or.inl ⟨by rfl, ?_⟩; intro w hSw; (try dsimp only at hSw); (go_simp <;> with_reducible rfl))
                case h5b8 => exact fun _ _ _ h => h
                try simp only [Act.put, List.setIfInBounds_toArray, List.set_cons_zero, List.set_cons_succ]
                refine wpAnyH_take (i := 9) (oi := ?oob9) (v := ?vvb9) ?hib9 (by kernel_rfl) ?h3b9 ?h4b9 ?h5b9 ?h6b9 (by assumption) ?h8b9
                case hib9 => (simp only [List.getElem?_toArray, List.getElem?_cons_succ, List.getElem?_cons_zero]; rfl)
                case h3b9 => kernel_rfl
                case h4b9 => kernel_rfl
                case h6b9 => (refine Or.inl ⟨by rfl, ?_⟩; intro w hSw; (try dsimp only at hSw); (go_simp <;> with_reducible rfl))
                case h5b9 => exact fun _ _ _ h => h
                try simp only [Act.put, List.setIfInBounds_toArray, List.set_cons_zero, List.set_cons_succ]
                refine wpAnyH_ready (rs := [10]) (by kernel_rfl) (by simp) (AllReadyH.cons (o := ?oob10) ?hib10 (fun K hK => ?hkb10) AllReadyH.nil)
                rotate_left
                case hib10 => (simp only [List.getElem?_toArray, List.getElem?_cons_succ, List.getElem?_cons_zero]; rfl)
                (rw [if_pos (by rfl)]; go_simp; refine (CR _).mono ?_; rintro e W5 ⟨rfl, rfl⟩; go_wp2_with fail; refine hK.out _ _ (hHeld) (fun hHeld => ?_); clear hK K)
                try simp only [Act.put, List.setIfInBounds_toArray, List.set_cons_zero, List.set_cons_succ]
                refine wpAnyH_take (i := 11) (oi := ?oob11) (v := ?vvb11) ?hib11 (by kernel_rfl) ?h3b11 ?h4b11 ?h5b11 ?h6b11 (by assumption) ?h8b11
                case hib11 => (simp only [List.getElem?_toArray, List.getElem?_cons_succ, List.getElem?_cons_zero]; rfl)
                case h3b11 => kernel_rfl
                case h4b11 => kernel_rfl
                case h6b11 => (refine Or.inl ⟨by rfl, ?_⟩; intro w hSw; (try dsimp only at hSw); (go_simp <;> with_reducible rfl))
                case h5b11 => exact fun _ _ _ h => h
                try simp only [Act.put, List.setIfInBounds_toArray, List.set_cons_zero, List.set_cons_succ]
                refine wpAnyH_take (i := 12) (oi := ?oob12) (v := ?vvb12) ?hib12 (by kernel_rfl) ?h3b12 ?h4b12 ?h5b12 ?h6b12 (by assumption) ?h8b12
                case hib12 => (simp only [List.getElem?_toArray, List.getElem?_cons_succ, List.getElem?_cons_zero]; rfl)
                case h3b12 => kernel_rfl
                case h4b12 => kernel_rfl
                case h6b12 => (refine Or.inl ⟨by rfl, ?_⟩; intro w hSw; (try dsimp only at hSw); (go_simp <;> with_reducible rfl))
                case h5b12 => exact fun _ _ _ h => h
                try simp only [Act.put, List.setIfInBounds_toArray, List.set_cons_zero, List.set_cons_succ]
                refine wpAnyH_take (i := 13) (oi := ?oob13) (v := ?vvb13) ?hib13 (by kernel_rfl) ?h3b13 ?h4b13 ?h5b13 ?h6b13 (by assumption) ?h8b13
                case hib13 => (simp only [List.getElem?_toArray, List.getElem?_cons_succ, List.getElem?_cons_zero]; rfl)
                case h3b13 => kernel_rfl
                case h4b13 => kernel_rfl
                case h6b13 => (refine Or.inl ⟨by rfl, ?_⟩; intro w hSw; (try dsimp only at hSw); (go_simp <;> with_reducible rfl))
                case h5b13 => exact fun _ _ _ h => h
                try simp only [Act.put, List.setIfInBounds_toArray, List.set_cons_zero, List.set_cons_succ]
                refine wpAnyH_take (i := 14) (oi := ?oob14) (v := ?vvb14) ?hib14 (by kernel_rfl) ?h3b14 ?h4b14 ?h5b14 ?h6b14 (by assumption) ?h8b14
                case hib14 => (simp only [List.getElem?_toArray, List.getElem?_cons_succ, List.getElem?_cons_zero]; rfl)
                case h3b14 => kernel_rfl
                case h4b14 => kernel_rfl
                case h6b14 => (refine Or.inl ⟨by rfl, ?_⟩; intro w hSw; (try dsimp only at hSw); (go_simp <;> with_reducible rfl))
                case h5b14 => exact fun _ _ _ h => h
                try simp only [Act.put, List.setIfInBounds_toArray, List.set_cons_zero, List.set_cons_succ]
                refine wpAnyH_take (i := 15) (oi := ?oob15) (v := ?vvb15) ?hib15 (by kernel_rfl) ?h3b15 ?h4b15 ?h5b15 ?h6b15 (by assumption) ?h8b15
                case hib15 => (simp only [List.getElem?_toArray, List.getElem?_cons_succ, List.getElem?_cons_zero]; rfl)
                case h3b15 => kernel_rfl
                case h4b15 => kernel_rfl
                case h6b15 => (refine Or.inl ⟨by rfl, ?_⟩; intro w hSw; (try dsimp only at hSw); (go_simp <;> with_reducible rfl))
                case h5b15 => exact fun _ _ _ h => h
                try simp only [Act.put, List.setIfInBounds_toArray, List.set_cons_zero, List.set_cons_succ]
                refine wpAnyH_take (i := 16) (oi := ?oob16) (v := ?vvb16) ?hib16 (by kernel_rfl) ?h3b16 ?h4b16 ?h5b16 ?h6b16 (by assumption) ?h8b16
                case hib16 => (simp only [List.getElem?_toArray, List.getElem?_cons_succ, List.getElem?_cons_zero]; rfl)
                case h3b16 => kernel_rfl
                case h4b16 => kernel_rfl
                case h6b16 => (refine Or.inl ⟨by rfl, ?_⟩; intro w hSw; (try dsimp only at hSw); (go_simp <;> with_reducible rfl))
                case h5b16 => exact fun _ _ _ h => h
                try simp only [Act.put, List.setIfInBounds_toArray, List.set_cons_zero, List.set_cons_succ]
                refine wpAnyH_take (i := 17) (oi := ?oob17) (v := ?vvb17) ?hib17 (by kernel_rfl) ?h3b17 ?h4b17 ?h5b17 ?h6b17 (by assumption) ?h8b17
                case hib17 => (simp only [List.getElem?_toArray, List.getElem?_cons_succ, List.getElem?_cons_zero]; rfl)
                case h3b17 => kernel_rfl
                case h4b17 => kernel_rfl
                case h6b17 => (refine Or.inl ⟨by rfl, ?_⟩; intro w hSw; (try dsimp only at hSw); (go_simp <;> with_reducible rfl))
                case h5b17 => exact fun _ _ _ h => h
                try simp only [Act.put, List.setIfInBounds_toArray, List.set_cons_zero, List.set_cons_succ]
                refine wpAnyH_take (i := 18) (oi := ?oob18) (v := ?vvb18) ?hib18 (by kernel_rfl) ?h3b18 ?h4b18 ?h5b18 ?h6b18 (by assumption) ?h8b18
                case hib18 => (simp only [List.getElem?_toArray, List.getElem?_cons_succ, List.getElem?_cons_zero]; rfl)
                case h3b18 => kernel_rfl
                case h4b18 => kernel_rfl
                case h6b18 => (refine Or.inl ⟨by rfl, ?_⟩; intro w hSw; (try dsimp only at hSw); (go_simp <;> with_reducible rfl))
                case h5b18 => exact fun _ _ _ h => h
                try simp only [Act.put, List.setIfInBounds_toArray, List.set_cons_zero, List.set_cons_succ]
                refine wpAnyH_take (i := 19) (oi := ?oob19) (v := ?vvb19) ?hib19 (by kernel_rfl) ?h3b19 ?h4b19 ?h5b19 ?h6b19 (by assumption) ?h8b19
                case hib19 => (simp only [List.getElem?_toArray, List.getElem?_cons_succ, List.getElem?_cons_zero]; rfl)
                case h3b19 => kernel_rfl
                case h4b19 => kernel_rfl
                case h6b19 => (refine Or.inl ⟨by rfl, ?_⟩; intro w hSw; (try dsimp only at hSw); (go_simp <;> with_reducible rfl))
                case h5b19 => exact fun _ _ _ h => h
                try simp only [Act.put, List.setIfInBounds_toArray, List.set_cons_zero, List.set_cons_succ]
                refine wpAnyH_take (i := 20) (oi := ?oob20) (v := ?vvb20) ?hib20 (by kernel_rfl) ?h3b20 ?h4b20 ?h5b20 ?h6b20 (by assumption) ?h8b20
                case hib20 => (simp only [List.getElem?_toArray, List.getElem?_cons_succ, List.getElem?_cons_zero]; rfl)
                case h3b20 => kernel_rfl
                case h4b20 => kernel_rfl
                case h6b20 => (refine Or.inl ⟨by rfl, ?_⟩; intro w hSw; (try dsimp only at hSw); (go_simp <;> with_reducible rfl))
                case h5b20 => exact fun _ _ _ h => h
                try simp only [Act.put, List.setIfInBounds_toArray, List.set_cons_zero, List.set_cons_succ]
                refine wpAnyH_take (i := 21) (oi := ?oob21) (v := ?vvb21) ?hib21 (by kernel_rfl) ?h3b21 ?h4b21 ?h5b21 ?h6b21 (by assumption) ?h8b21
                case hib21 => (simp only [List.getElem?_toArray, List.getElem?_cons_succ, List.getElem?_cons_zero]; rfl)
                case h3b21 => kernel_rfl
                case h4b21 => kernel_rfl
                case h6b21 => (refine Or.inl ⟨by rfl, ?_⟩; intro w hSw; (try dsimp only at hSw); (go_simp <;> with_reducible rfl))
                case h5b21 => exact fun _ _ _ h => h
                try simp only [Act.put, List.setIfInBounds_toArray, List.set_cons_zero, List.set_cons_succ]
                refine wpAnyH_take (i := 22) (oi := ?oob22) (v := ?vvb22) ?hib22 (by kernel_rfl) ?h3b22 ?h4b22 ?h5b22 ?h6b22 (by assumption) ?h8b22
                case hib22 => (simp only [List.getElem?_toArray, List.getElem?_cons_succ, List.getElem?_cons_zero]; rfl)
                case h3b22 => kernel_rfl
                case h4b22 => kernel_rfl
                case h6b22 => (refine Or.inl ⟨by rfl, ?_⟩; intro w hSw; (try dsimp only at hSw); (go_simp <;> with_reducible rfl))
                case h5b22 => exact fun _ _ _ h => h
                try simp only [Act.put, List.setIfInBounds_toArray, List.set_cons_zero, List.set_cons_succ]
                refine wpAnyH_take (i := 23) (oi := ?oob23) (v := ?vvb23) ?hib23 (by kernel_rfl) ?h3b23 ?h4b23 ?h5b23 ?h6b23 (by assumption) ?h8b23
                case hib23 => (simp only [List.getElem?_toArray, List.getElem?_cons_succ, List.getElem?_cons_zero]; rfl)
                case h3b23 => kernel_rfl
                case h4b23 => kernel_rfl
                case h6b23 => (refine Or.inl ⟨by rfl, ?_⟩; intro w hSw; (try dsimp only at hSw); (go_simp <;> with_reducible rfl))
                case h5b23 => exact fun _ _ _ h => h
                try simp only [Act.put, List.setIfInBounds_toArray, List.set_cons_zero, List.set_cons_succ]
                refine wpAnyH_take (i := 24) (oi := ?oob24) (v := ?vvb24) ?hib24 (by kernel_rfl) ?h3b24 ?h4b24 ?h5b24 ?h6b24 (by assumption) ?h8b24
                case hib24 => (simp only [List.getElem?_toArray, List.getElem?_cons_succ, List.getElem?_cons_zero]; rfl)
                case h3b24 => kernel_rfl
                case h4b24 => kernel_rfl
                case h6b24 => (refine Or.inl ⟨by rfl, ?_⟩; intro w hSw; (try dsimp only at hSw); (go_simp <;> with_reducible rfl))
                case h5b24 => exact fun _ _ _ h => h
                try simp only [Act.put, List.setIfInBounds_toArray, List.set_cons_zero, List.set_cons_succ]
                refine wpAnyH_take (i := 25) (oi := ?oob25) (v := ?vvb25) ?hib25 (by kernel_rfl) ?h3b25 ?h4b25 ?h5b25 ?h6b25 (by assumption) ?h8b25
                case hib25 => (simp only [List.getElem?_toArray, List.getElem?_cons_succ, List.getElem?_cons_zero]; rfl)
                case h3b25 => kernel_rfl
                case h4b25 => kernel_rfl
                case h6b25 => (refine Or.inl ⟨by rfl, ?_⟩; intro w hSw; (try dsimp only at hSw); (go_simp <;> with_reducible rfl))
                case h5b25 => exact fun _ _ _ h => h
                try simp only [Act.put, List.setIfInBounds_toArray, List.set_cons_zero, List.set_cons_succ]
                refine wpAnyH_ready (rs := [26]) (by kernel_rfl) (by simp) (AllReadyH.cons (o := ?oob26) ?hib26 (fun K hK => ?hkb26) AllReadyH.nil)
                rotate_left
                case hib26 => (simp only [List.getElem?_toArray, List.getElem?_cons_succ, List.getElem?_cons_zero]; rfl)
                (rw [if_pos (by rfl)]; go_simp; refine (splace (some ⟨ga, oa, none⟩) cp k (r.take k) x _ (IT hHeld) HTL.out (by omega)).mono ?_; rintro e W6 ⟨pv, rfl, p1, p2, rfl⟩; obtain rfl := p2 hmem; clear p1 p2; go_wp2_with fail; refine hK.out _ _ (hHeld) (fun hHeld => ?_); clear hK K)
                try simp only [Act.put, List.setIfInBounds_toArray, List.set_cons_zero, List.set_cons_succ]
                refine wpAnyH_take (i := 27) (oi := ?oob27) (v := ?vvb27) ?hib27 (by kernel_rfl) ?h3b27 ?h4b27 ?h5b27 ?h6b27 (by assumption) ?h8b27
                case hib27 => (simp only [List.getElem?_toArray, List.getElem?_cons_succ, List.getElem?_cons_zero]; rfl)
                case h3b27 => kernel_rfl
                case h4b27 => kernel_rfl
                case h6b27 => (refine Or.inl ⟨by rfl, ?_⟩; intro w hSw; (try dsimp only at hSw); (go_simp <;> with_reducible rfl))
                case h5b27 => exact fun _ _ _ h => h
                try simp only [Act.put, List.setIfInBounds_toArray, List.set_cons_zero, List.set_cons_succ]
                refine wpAnyH_take (i := 28) (oi := ?oob28) (v := ?vvb28) ?hib28 (by kernel_rfl) ?h3b28 ?h4b28 ?h5b28 ?h6b28 (by assumption) ?h8b28
                case hib28 => (simp only [List.getElem?_toArray, List.getElem?_cons_succ, List.getElem?_cons_zero]; rfl)
                case h3b28 => kernel_rfl
                case h4b28 => kernel_rfl
                case h6b28 => (refine Or.inl ⟨by rfl, ?_⟩; intro w hSw; (try dsimp only at hSw); (go_simp <;> with_reducible rfl))
                case h5b28 => exact fun _ _ _ h => h
                try simp only [Act.put, List.setIfInBounds_toArray, List.set_cons_zero, List.set_cons_succ]
                refine wpAnyH_done (by kernel_rfl) ?_ _
                have B := bel_tr HB.out (And.right (by assumption))
                go_wp2_with fail
                go_roundw
                case rel => exact ⟨k + 1, by omega, by go_num, H2.out, B⟩
                case measure => simp [intOf]; omega
            · have CR := fun W => inRange_no x 0 ((rs.length : Int) - 1) W (by omega)
              have HN := Lib.hid (wish_no2 hlt (by rw [HR.out]; exact ord_no HKR.out (okW_no1 (by rw [HX.out]; omega))))
              clear IT
              go_wp2_with fail
              refine wp_region_held_drew (S := (fun w' => (w'.cell? ⟨g, o + i, none⟩ = some (.slice (some ⟨ga, oa, none⟩) rs.length cp) ∧ w'.cell? ⟨ga, oa + k, none⟩ = some (.int .i64 x) ∧ w'.cell? ⟨ga, oa + k, none⟩ = some (.int .i64 x)) ∧ Below wr.heap.size wr w')) (by kernel_rfl) ?_ (fun hHeld => ?_)
              · exact ⟨⟨c0, c1, c1⟩, (Below.refl _ _).drew⟩
              refine wpAnyH_take (i := 0) (oi := ?ooc0) (v := ?vvc0) ?hic0 (by kernel_rfl) ?h3c0 ?h4c0 ?h5c0 ?h6c0 (by assumption) ?h8c0
              case hic0 => (simp only [List.getElem?_toArray, List.getElem?_cons_succ, List.getElem?_cons_zero]; rfl)
              case h3c0 => kernel_rfl
              case h4c0 => kernel_rfl
              case h6c0 => (refine Or.inl ⟨by rfl, ?_⟩; intro w hSw; (try dsimp only at hSw); (go_simp <;> with_reducible rfl))
              case h5c0 => exact fun _ _ _ h => h
              try simp only [Act.put, List.setIfInBounds_toArray, List.set_cons_zero, List.set_cons_succ]
              refine wpAnyH_take (i := 1) (oi := ?ooc1) (v := ?vvc1) ?hic1 (by kernel_rfl) ?h3c1 ?h4c1 ?h5c1 ?h6c1 (by assumption) ?h8c1
              case hic1 => (simp only [List.getElem?_toArray, List.getElem?_cons_succ, List.getElem?_cons_zero]; rfl)
              case h3c1 => kernel_rfl
              case h4c1 => kernel_rfl
              case h6c1 => (refine Or.inl ⟨by rfl, ?_⟩; intro w hSw; (try dsimp only at hSw); (go_simp <;> with_reducible rfl))
              case h5c1 => exact fun _ _ _ h => h
              try simp only [Act.put, List.setIfInBounds_toArray, List.set_cons_zero, List.set_cons_succ]
              refine wpAnyH_take (i := 2) (oi := ?ooc2) (v := ?vvc2) ?hic2 (by kernel_rfl) ?h3c2 ?h4c2 ?h5c2 ?h6c2 (by assumption) ?h8c2
              case hic2 => (simp only [List.getElem?_toArray, List.getElem?_cons_succ, List.getElem?_cons_zero]; rfl)
              case h3c2 => kernel_rfl
              case h4c2 => kernel_rfl
              case h6c2 => (refine Or.inl ⟨by rfl, ?_⟩; intro w hSw; (try dsimp only at hSw); (go_simp <;> with_reducible rfl))
              case h5c2 => exact fun _ _ _ h => h
              try simp only [Act.put, List.setIfInBounds_toArray, List.set_cons_zero, List.set_cons_succ]
              refine wpAnyH_take (i := 3) (oi := ?ooc3) (v := ?vvc3) ?hic3 (by kernel_rfl) ?h3c3 ?h4c3 ?h5c3 ?h6c3 (by assumption) ?h8c3
              case hic3 => (simp only [List.getElem?_toArray, List.getElem?_cons_succ, List.getElem?_cons_zero]; rfl)
              case h3c3 => kernel_rfl
              case h4c3 => kernel_rfl
              case h6c3 => (refine Or.inl ⟨by rfl, ?_⟩; intro w hSw; (try dsimp only at hSw); (go_simp <;> with_reducible rfl))
              case h5c3 => exact fun _ _ _ h => h
              try simp only [Act.put, List.setIfInBounds_toArray, List.set_cons_zero, List.set_cons_succ]
              refine wpAnyH_take (i := 4) (oi := ?ooc4) (v := ?vvc4) ?hic4 (by kernel_rfl) ?h3c4 ?h4c4 ?h5c4 ?h6c4 (by assumption) ?h8c4
              case hic4 => (simp only [List.getElem?_toArray, List.getElem?_cons_succ, List.getElem?_cons_zero]; rfl)
              case h3c4 => kernel_rfl
              case h4c4 => kernel_rfl
              case h6c4 => (refine Or.inl ⟨by rfl, ?_⟩; intro w hSw; (try dsimp only at hSw); (go_simp <;> with_reducible rfl))
              case h5c4 => exact fun _ _ _ h => h
              try simp only [Act.put, List.setIfInBounds_toArray, List.set_cons_zero, List.set_cons_succ]
              refine wpAnyH_take (i := 5) (oi := ?ooc5) (v := ?vvc5) ?hic5 (by kernel_rfl) ?h3c5 ?h4c5 ?h5c5 ?h6c5 (by assumption) ?h8c5
              case hic5 => (simp only [List.getElem?_toArray, List.getElem?_cons_succ, List.getElem?_cons_zero]; rfl)
              case h3c5 => kernel_rfl
              case h4c5 => kernel_rfl
              case h6c5 => (refine Or.inl ⟨by rfl, ?_⟩; intro w hSw; (try dsimp only at hSw); (go_simp <;> with_reducible rfl))
              case h5c5 => exact fun _ _ _ h => h
              try simp only [Act.put, List.setIfInBounds_toArray, List.set_cons_zero, List.set_cons_succ]
              refine wpAnyH_take (i := 6) (oi := ?ooc6) (v := ?vvc6) ?hic6 (by kernel_rfl) ?h3c6 ?h4c6 ?h5c6 ?h6c6 (by assumption) ?h8c6
              case hic6 => (simp only [List.getElem?_toArray, List.getElem?_cons_succ, List.getElem?_cons_zero]; rfl)
              case h3c6 => kernel_rfl
              case h4c6 => kernel_rfl
              case h6c6 => (refine Or.inl ⟨by rfl, ?_⟩; intro w hSw; (try dsimp only at hSw); (go_simp <;> with_reducible rfl))
              case h5c6 => exact fun _ _ _ h => h
              try simp only [Act.put, List.setIfInBounds_toArray, List.set_cons_zero, List.set_cons_succ]
              refine wpAnyH_take (i := 7) (oi := ?ooc7) (v := ?vvc7) ?hic7 (by kernel_rfl) ?h3c7 ?h4c7 ?h5c7 ?h6c7 (by assumption) ?h8c7
              case hic7 => (simp only [List.getElem?_toArray, List.getElem?_cons_succ, List.getElem?_cons_zero]; rfl)
              case h3c7 => kernel_rfl
              case h4c7 => kernel_rfl
              case h6c7 => (refine Or.inl ⟨by rfl, ?_⟩; intro w hSw; (try dsimp only at hSw); (go_simp <;> with_reducible rfl))
              case h5c7 => exact fun _ _ _ h => h
              try simp only [Act.put, List.setIfInBounds_toArray, List.set_cons_zero, List.set_cons_succ]
              refine wpAnyH_take (i := 8) (oi := ?ooc8) (v := ?vvc8) ?hic8 (by kernel_rfl) ?h3c8 ?h4c8 ?h5c8 ?h6c8 (by assumption) ?h8c8
              case hic8 => (simp only [List.getElem?_toArray, List.getElem?_cons_succ, List.getElem?_cons_zero]; rfl)
              case h3c8 => kernel_rfl
              case h4c8 => kernel_rfl
              case h6c8 => (refine Or.inl ⟨by rfl, ?_⟩; intro w hSw; (try dsimp only at hSw); (go_simp <;> with_reducible rfl))
              case h5c8 => exact fun _ _ _ h => h
              try simp only [Act.put, List.setIfInBounds_toArray, List.set_cons_zero, List.set_cons_succ]
              refine wpAnyH_take (i := 9) (oi := ?ooc9) (v := ?vvc9) ?hic9 (by kernel_rfl) ?h3c9 ?h4c9 ?h5c9 ?h6c9 (by assumption) ?h8c9
              case hic9 => (simp only [List.getElem?_toArray, List.getElem?_cons_succ, List.getElem?_cons_zero]; rfl)
              case h3c9 => kernel_rfl
              case h4c9 => kernel_rfl
              case h6c9 => (refine Or.inl ⟨by rfl, ?_⟩; intro w hSw; (try dsimp only at hSw); (go_simp <;> with_reducible rfl))
              case h5c9 => exact fun _ _ _ h => h
              try simp only [Act.put, List.setIfInBounds_toArray, List.set_cons_zero, List.set_cons_succ]
              refine wpAnyH_ready (rs := [10]) (by kernel_rfl) (by simp) (AllReadyH.cons (o := ?ooc10) ?hic10 (fun K hK => ?hkc10) AllReadyH.nil)
              rotate_left
              case hic10 => (simp only [List.getElem?_toArray, List.getElem?_cons_succ, List.getElem?_cons_zero]; rfl)
              (rw [if_pos (by rfl)]; go_simp; refine (CR _).mono ?_; rintro e W5 ⟨rfl, rfl⟩; go_wp2_with fail; refine hK.out _ _ (hHeld) (fun hHeld => ?_); clear hK K)
              try simp only [Act.put, List.setIfInBounds_toArray, List.set_cons_zero, List.set_cons_succ]
              refine wpAnyH_take (i := 11) (oi := ?ooc11) (v := ?vvc11) ?hic11 (by kernel_rfl) ?h3c11 ?h4c11 ?h5c11 ?h6c11 (by assumption) ?h8c11
              case hic11 => (simp only [List.getElem?_toArray, List.getElem?_cons_succ, List.getElem?_cons_zero]; rfl)
              case h3c11 => kernel_rfl
              case h4c11 => kernel_rfl
              case h6c11 => (refine Or.inl ⟨by rfl, ?_⟩; intro w hSw; (try dsimp only at hSw); (go_simp <;> with_reducible rfl))
              case h5c11 => exact fun _ _ _ h => h
              try simp only [Act.put, List.setIfInBounds_toArray, List.set_cons_zero, List.set_cons_succ]
              refine wpAnyH_take (i := 12) (oi := ?ooc12) (v := ?vvc12) ?hic12 (by kernel_rfl) ?h3c12 ?h4c12 ?h5c12 ?h6c12 (by assumption) ?h8c12
              case hic12 => (simp only [List.getElem?_toArray, List.getElem?_cons_succ, List.getElem?_cons_zero]; rfl)
              case h3c12 => kernel_rfl
              case h4c12 => kernel_rfl
              case h6c12 => (refine Or.inl ⟨by rfl, ?_⟩; intro w hSw; (try dsimp only at hSw); (go_simp <;> with_reducible rfl))
              case h5c12 => exact fun _ _ _ h => h
              try simp only [Act.put, List.setIfInBounds_toArray, List.set_cons_zero, List.set_cons_succ]
              refine wpAnyH_take (i := 13) (oi := ?ooc13) (v := undef) ?hic13 (by kernel_rfl) ?h3c13 ?h4c13 ?h5c13 ?h6c13 (by assumption) ?h8c13
              case hic13 => (simp only [List.getElem?_toArray, List.getElem?_cons_succ, List.getElem?_cons_zero]; rfl)
              case h3c13 => kernel_rfl
              case h4c13 => kernel_rfl
              case h6c13 => exact Or.inr ⟨by rfl, rfl⟩
              case h5c13 => exact fun _ _ _ h => h
              try simp only [Act.put, List.setIfInBounds_toArray, List.set_cons_zero, List.set_cons_succ]
              refine wpAnyH_take (i := 14) (oi := ?ooc14) (v := undef) ?hic14 (by kernel_rfl) ?h3c14 ?h4c14 ?h5c14 ?h6c14 (by assumption) ?h8c14
              case hic14 => (simp only [List.getElem?_toArray, List.getElem?_cons_succ, List.getElem?_cons_zero]; rfl)
              case h3c14 => kernel_rfl
              case h4c14 => kernel_rfl
              case h6c14 => exact Or.inr ⟨by rfl, rfl⟩
              case h5c14 => exact fun _ _ _ h => h
              try simp only [Act.put, List.setIfInBounds_toArray, List.set_cons_zero, List.set_cons_succ]
              refine wpAnyH_take (i := 15) (oi := ?ooc15) (v := undef) ?hic15 (by kernel_rfl) ?h3c15 ?h4c15 ?h5c15 ?h6c15 (by assumption) ?h8c15
              case hic15 => (simp only [List.getElem?_toArray, List.getElem?_cons_succ, List.getElem?_cons_zero]; rfl)
              case h3c15 => kernel_rfl
              case h4c15 => kernel_rfl
              case h6c15 => exact Or.inr ⟨by rfl, rfl⟩
              case h5c15 => exact fun _ _ _ h => h
              try simp only [Act.put, List.setIfInBounds_toArray, List.set_cons_zero, List.set_cons_succ]
              refine wpAnyH_take (i := 16) (oi := ?ooc16) (v := undef) ?hic16 (by kernel_rfl) ?h3c16 ?h4c16 ?h5c16 ?h6c16 (by assumption) ?h8c16
              case hic16 => (simp only [List.getElem?_toArray, List.getElem?_cons_succ, List.getElem?_cons_zero]; rfl)
              case h3c16 => kernel_rfl
              case h4c16 => kernel_rfl
              case h6c16 => exact Or.inr ⟨by rfl, rfl⟩
              case h5c16 => exact fun _ _ _ h => h
              try simp only [Act.put, List.setIfInBounds_toArray, List.set_cons_zero, List.set_cons_succ]
              refine wpAnyH_take (i := 17) (oi := ?ooc17) (v := undef) ?hic17 (by kernel_rfl) ?h3c17 ?h4c17 ?h5c17 ?h6c17 (by assumption) ?h8c17
              case hic17 => (simp only [List.getElem?_toArray, List.getElem?_cons_succ, List.getElem?_cons_zero]; rfl)
              case h3c17 => kernel_rfl
              case h4c17 => kernel_rfl
              case h6c17 => exact Or.inr ⟨by rfl, rfl⟩
              case h5c17 => exact fun _ _ _ h => h
              try simp only [Act.put, List.setIfInBounds_toArray, List.set_cons_zero, List.set_cons_succ]
              refine wpAnyH_take (i := 18) (oi := ?ooc18) (v := undef) ?hic18 (by kernel_rfl) ?h3c18 ?h4c18 ?h5c18 ?h6c18 (by assumption) ?h8c18
              case hic18 => (simp only [List.getElem?_toArray, List.getElem?_cons_succ, List.getElem?_cons_zero]; rfl)
              case h3c18 => kernel_rfl
              case h4c18 => kernel_rfl
              case h6c18 => exact Or.inr ⟨by rfl, rfl⟩
              case h5c18 => exact fun _ _ _ h => h
              try simp only [Act.put, List.setIfInBounds_toArray, List.set_cons_zero, List.set_cons_succ]
              refine wpAnyH_take (i := 19) (oi := ?ooc19) (v := undef) ?hic19 (by kernel_rfl) ?h3c19 ?h4c19 ?h5c19 ?h6c19 (by assumption) ?h8c19
              case hic19 => (simp only [List.getElem?_toArray, List.getElem?_cons_succ, List.getElem?_cons_zero]; rfl)
              case h3c19 => kernel_rfl
              case h4c19 => kernel_rfl
              case h6c19 => exact Or.inr ⟨by rfl, rfl⟩
              case h5c19 => exact fun _ _ _ h => h
              try simp only [Act.put, List.setIfInBounds_toArray, List.set_cons_zero, List.set_cons_succ]
              refine wpAnyH_take (i := 20) (oi := ?ooc20) (v := undef) ?hic20 (by kernel_rfl) ?h3c20 ?h4c20 ?h5c20 ?h6c20 (by assumption) ?h8c20
              case hic20 => (simp only [List.getElem?_toArray, List.getElem?_cons_succ, List.getElem?_cons_zero]; rfl)
              case h3c20 => kernel_rfl
              case h4c20 => kernel_rfl
              case h6c20 => exact Or.inr ⟨by rfl, rfl⟩
              case h5c20 => exact fun _ _ _ h => h
              try simp only [Act.put, List.setIfInBounds_toArray, List.set_cons_zero, List.set_cons_succ]
              refine wpAnyH_take (i := 21) (oi := ?ooc21) (v := undef) ?hic21 (by kernel_rfl) ?h3c21 ?h4c21 ?h5c21 ?h6c21 (by assumption) ?h8c21
              case hic21 => (simp only [List.getElem?_toArray, List.getElem?_cons_succ, List.getElem?_cons_zero]; rfl)
              case h3c21 => kernel_rfl
              case h4c21 => kernel_rfl
              case h6c21 => exact Or.inr ⟨by rfl, rfl⟩
              case h5c21 => exact fun _ _ _ h => h
              try simp only [Act.put, List.setIfInBounds_toArray, List.set_cons_zero, List.set_cons_succ]
              refine wpAnyH_take (i := 22) (oi := ?ooc22) (v := undef) ?hic22 (by kernel_rfl) ?h3c22 ?h4c22 ?h5c22 ?h6c22 (by assumption) ?h8c22
              case hic22 => (simp only [List.getElem?_toArray, List.getElem?_cons_succ, List.getElem?_cons_zero]; rfl)
              case h3c22 => kernel_rfl
              case h4c22 => kernel_rfl
              case h6c22 => exact Or.inr ⟨by rfl, rfl⟩
              case h5c22 => exact fun _ _ _ h => h
              try simp only [Act.put, List.setIfInBounds_toArray, List.set_cons_zero, List.set_cons_succ]
              refine wpAnyH_take (i := 23) (oi := ?ooc23) (v := undef) ?hic23 (by kernel_rfl) ?h3c23 ?h4c23 ?h5c23 ?h6c23 (by assumption) ?h8c23
              case hic23 => (simp only [List.getElem?_toArray, List.getElem?_cons_succ, List.getElem?_cons_zero]; rfl)
              case h3c23 => kernel_rfl
              case h4c23 => kernel_rfl
              case h6c23 => exact Or.inr ⟨by rfl, rfl⟩
              case h5c23 => exact fun _ _ _ h => h
              try simp only [Act.put, List.setIfInBounds_toArray, List.set_cons_zero, List.set_cons_succ]
              refine wpAnyH_take (i := 24) (oi := ?ooc24) (v := undef) ?hic24 (by kernel_rfl) ?h3c24 ?h4c24 ?h5c24 ?h6c24 (by assumption) ?h8c24
              case hic24 => (simp only [List.getElem?_toArray, List.getElem?_cons_succ, List.getElem?_cons_zero]; rfl)
              case h3c24 => kernel_rfl
              case h4c24 => kernel_rfl
              case h6c24 => exact Or.inr ⟨by rfl, rfl⟩
              case h5c24 => exact fun _ _ _ h => h
              try simp only [Act.put, List.setIfInBounds_toArray, List.set_cons_zero, List.set_cons_succ]
              refine wpAnyH_take (i := 25) (oi := ?ooc25) (v := undef) ?hic25 (by kernel_rfl) ?h3c25 ?h4c25 ?h5c25 ?h6c25 (by assumption) ?h8c25
              case hic25 => (simp only [List.getElem?_toArray, List.getElem?_cons_succ, List.getElem?_cons_zero]; rfl)
              case h3c25 => kernel_rfl
              case h4c25 => kernel_rfl
              case h6c25 => exact Or.inr ⟨by rfl, rfl⟩
              case h5c25 => exact fun _ _ _ h => h
              try simp only [Act.put, List.setIfInBounds_toArray, List.set_cons_zero, List.set_cons_succ]
              refine wpAnyH_take (i := 26) (oi := ?ooc26) (v := undef) ?hic26 (by kernel_rfl) ?h3c26 ?h4c26 ?h5c26 ?h6c26 (by assumption) ?h8c26
              case hic26 => (simp only [List.getElem?_toArray, List.getElem?_cons_succ, List.getElem?_cons_zero]; rfl)
              case h3c26 => kernel_rfl
              case h4c26 => kernel_rfl
              case h6c26 => exact Or.inr ⟨by rfl, rfl⟩
              case h5c26 => exact fun _ _ _ h => h
              try simp only [Act.put, List.setIfInBounds_toArray, List.set_cons_zero, List.set_cons_succ]
              refine wpAnyH_take (i := 27) (oi := ?ooc27) (v := undef) ?hic27 (by kernel_rfl) ?h3c27 ?h4c27 ?h5c27 ?h6c27 (by assumption) ?h8c27
              case hic27 => (simp only [List.getElem?_toArray, List.getElem?_cons_succ, List.getElem?_cons_zero]; rfl)
              case h3c27 => kernel_rfl
              case h4c27 => kernel_rfl
              case h6c27 => exact Or.inr ⟨by rfl, rfl⟩
              case h5c27 => exact fun _ _ _ h => h
              try simp only [Act.put, List.setIfInBounds_toArray, List.set_cons_zero, List.set_cons_succ]
              refine wpAnyH_take (i := 28) (oi := ?ooc28) (v := ?vvc28) ?hic28 (by kernel_rfl) ?h3c28 ?h4c28 ?h5c28 ?h6c28 (by assumption) ?h8c28
              case hic28 => (simp only [List.getElem?_toArray, List.getElem?_cons_succ, List.getElem?_cons_zero]; rfl)
              case h3c28 => kernel_rfl
              case h4c28 => kernel_rfl
              case h6c28 => (refine Or.inl ⟨by rfl, ?_⟩; intro w hSw; (try dsimp only at hSw); (go_simp <;> with_reducible rfl))
              case h5c28 => exact fun _ _ _ h => h
              try simp only [Act.put, List.setIfInBounds_toArray, List.set_cons_zero, List.set_cons_succ]
              refine wpAnyH_done (by kernel_rfl) ?_ _
              have B := bel_tr W0.out (bel_tr HB.out (And.right (by assumption)))
              go_wp2_with fail
              go_ret
              exact ⟨ret_bool HN.out.symm, B⟩
          · obtain rfl : k = rs.length := by omega
            have H2 : Hid (∀ j, j < i + 1 → ordB rs.length (rs.getD j []) = true) := fun j hj => by
              by_cases c : j = i
              · subst c; rw [HR.out]; exact ord_yes HM.out (fun q hq => hok q (by rw [HM.out] at hq; exact hq))
              · exact HA.out j (by omega)
            have B2 := bel_tr W0.out B
            clear hok
            go_wp2_with fail
            go_roundw
            case rel => exact ⟨i + 1, by omega, by go_num, H2.out, B2⟩
            case measure => simp [intOf]; omega
      · have HN := Lib.hid (wish_no2 hlt (ord_len hm))
        generalize hmm : (rs.getD i []).length = m at c0 hm
        have e1 : ((m : Int) != (rs.length : Int)) = true := by simp; omega
        clear hin hlc hmm hm
        go_wp2_with fail
        go_ret
        exact ⟨ret_bool HN.out.symm, B⟩
    · obtain rfl : i = rs.length := by omega
      by_cases h8 : rs.length ≤ 8
      · have HN := Lib.hid (wish_yes h8 hall)
        have e1 : decide ((rs.length : Int) ≤ 8) = true := decide_eq_true (by omega)
        clear hall h8
        go_wp2_with fail
        go_ret
        exact ⟨ret_bool HN.out.symm, B⟩
      · have HN := Lib.hid (wish_no1 (rs := rs) (by omega))
        have e1 : decide ((rs.length : Int) ≤ 8) = false := decide_eq_false (by omega)
        clear hall h8
        go_wp2_with fail
        go_ret
        exact ⟨ret_bool HN.out.symm, B⟩
end Go.Proofs.Ytdlbjmhjaljlfab
