/- showLedger, of holdings whose numbers are small. Condition: at most 1048576 holdings. -/
import Derived.Test.YtdlbjmhjaljlfaaLgtP
import Derived.Test.YtdlbjmhjaljlfaaHoldV
import Derived.Test.YtdlbjmhjaljlfaaFmtF
namespace Go.Proofs.Ytdlbjmhjaljlfaa
open Go.RowKit
set_option linter.unusedSimpArgs false
set_option linter.unusedVariables false
theorem ltk_lenG {hs : List Hd} (h : ∀ k, k < hs.length → 0 ≤ (hs.getD k hd0).1 ∧ (hs.getD k hd0).1 ≤ 999 ∧ 0 ≤ (hs.getD k hd0).2.1 ∧ (hs.getD k hd0).2.1 ≤ 10000 ∧ 0 ≤ (hs.getD k hd0).2.2 ∧ (hs.getD k hd0).2.2 ≤ 10000) : ∀ k, k ≤ hs.length → (ltk hs k).length ≤ k * 32 := by
  intro k
  induction k with
  | zero => intro _; rw [ltk_zero]; simp
  | succ k ih =>
    intro hk
    have i := ih (by omega)
    obtain ⟨a, b, c, d, e, g⟩ := h k (by omega)
    rw [ltk_next (o := (hs.getD k hd0).1) (n := (hs.getD k hd0).2.1) (d := (hs.getD k hd0).2.2) (by omega) rfl]
    have l1 := dec_small (n := (hs.getD k hd0).1) (by omega)
    have l2 := dec_small (n := (hs.getD k hd0).2.1) (by omega)
    have l3 := dec_small (n := (hs.getD k hd0).2.2) (by omega)
    simp only [List.length_append, List.length_cons, List.length_nil]
    omega
set_option maxRecDepth 100000 in
set_option maxHeartbeats 4000000 in
/-- spec.showLedger -/
theorem sShowG (g off : Nat) (cap : Nat) (hs : List Hd) (w : World) (hc : ∀ i, i < hs.length → w.cell? ⟨g, off + i * 3, none⟩ = some (.int .i64 (hs.getD i hd0).1) ∧ w.cell? ⟨g, off + i * 3 + 1, none⟩ = some (.int .i64 (hs.getD i hd0).2.1) ∧ w.cell? ⟨g, off + i * 3 + 2, none⟩ = some (.int .i64 (hs.getD i hd0).2.2)) (h12 : hs.length ≤ 12) (hv : ∀ k, k < hs.length → 0 ≤ (hs.getD k hd0).1 ∧ (hs.getD k hd0).1 ≤ 999 ∧ 0 ≤ (hs.getD k hd0).2.1 ∧ (hs.getD k hd0).2.1 ≤ 10000 ∧ 0 ≤ (hs.getD k hd0).2.2 ∧ (hs.getD k hd0).2.2 ≤ 10000) :
    Calls Try.prog 70 #[.slice (some ⟨g, off, none⟩) hs.length cap] w fun e w' => e = .returned (.string (txt (textB hs))) ∧ Below w.heap.size w w' := by
  have HV := Lib.hid hv
  have HC := Lib.hid hc
  clear hc hv
  have CF : ∀ (n d : Int) (W : World), 0 ≤ n → n ≤ 10000 → 0 ≤ d → d ≤ 10000 → Calls Try.prog 106 #[.agg #[.int .i64 n, .int .i64 d]] W fun e w' => e = .returned (.string (txt (decL n.toNat ++ 47 :: decL d.toNat))) ∧ Below W.heap.size W w' := fun n d W e1 e2 e3 e4 => sshow n d W ⟨by omega, by omega⟩ ⟨by omega, by omega⟩
  have CD : ∀ (o : Int) (W : World), 0 ≤ o → o ≤ 999 → Calls Try.prog 105 #[.int .i64 o] W fun e w' => e = .returned (.string (txt (decL o.toNat))) ∧ W = w' := fun o W h1 h2 => snumI o W (by omega) (by omega)
  have B := Below.refl w.heap.size w
  go_enter Try.func70, Try.ntmps70
  go_wp2_with fail
  go_loopw [3, 4] (fun t i wr => ∃ k : Nat, k ≤ hs.length ∧ i = .int .i64 k ∧ t = .string (txt (ltk hs k)) ∧ Below w.heap.size w wr) (fun _ i _ => hs.length - (intOf i).toNat)
  case atStart => exact ⟨0, Nat.zero_le _, rfl, by rw [ltk_zero]; rfl, B⟩
  case round =>
    clear B
    obtain ⟨k, hk, rfl, rfl, hB⟩ := hrel
    by_cases hlt : k < hs.length
    · obtain ⟨c0, c1, c2⟩ := cells_at HC.out hB hlt
      have hkl : k < hs.length := hlt
      obtain ⟨v1, v2, v3, y1, y2, y3⟩ := HV.out k hkl
      have l0 := ltk_lenG HV.out k hk
      have hN := fun (o n d : Int) => ltk_next (hs := hs) (k := k) (o := o) (n := n) (d := d) hkl
      generalize hs.getD k hd0 = hh at c0 c1 c2 v1 v2 v3 y1 y2 y3 hN
      obtain ⟨ow, n, d⟩ := hh
      have hT := hN ow n d rfl
      dsimp only at c0 c1 c2 v1 v2 v3 y1 y2 y3
      clear hN
      have KF := fun W => CF n d W v3 y1 y2 y3
      have KD := fun W => CD ow W v1 v2
      have l1 := dec_small (n := ow) (by omega)
      have l2 := dec_small (n := n) (by omega)
      have l3 := dec_small (n := d) (by omega)
      have l5 := h12
      have l4 : (ltk hs k).length ≤ 384 := by omega
      clear v1 v2 v3 l0 y1 y2 y3 l5
      generalize ltk hs k = T at *
      generalize decL ow.toNat = A1 at *
      have lF : (decL n.toNat ++ 47 :: decL d.toNat).length ≤ 17 := by simp; omega
      generalize decL n.toNat ++ 47 :: decL d.toNat = F at *
      have a1 := fun w => add_txt T A1 w (by omega)
      have a2 : ∀ w, (Op.stringOp .add (txt (T ++ A1)) ({ data := #[32] } : ByteArray)).run Try.prog w = .ok (.string (txt (T ++ A1 ++ [32]))) w := fun w => add_txt (T ++ A1) [32] w (by simp; omega)
      have a3 := fun w => add_txt (T ++ A1 ++ [32]) F w (by simp; omega)
      have a4 : ∀ w, (Op.stringOp .add (txt (T ++ A1 ++ [32] ++ F)) ({ data := #[10] } : ByteArray)).run Try.prog w = .ok (.string (txt (T ++ A1 ++ [32] ++ F ++ [10]))) w := fun w => add_txt (T ++ A1 ++ [32] ++ F) [10] w (by simp; omega)
      generalize T ++ A1 ++ [32] ++ F ++ [10] = X4 at *
      generalize T ++ A1 ++ [32] ++ F = X3 at *
      generalize T ++ A1 ++ [32] = X2 at *
      generalize T ++ A1 = X1 at *
      clear l1 l2 l3 l4 lF
      have HT := Lib.hid hT
      have HKF := Lib.hid KF
      have HKD := Lib.hid KD
      clear KF KD hT
      clear CF CD
      have BA := hB
      have b0 := World.block_lt_of_cell? wr _ c0
      have b1 := World.block_lt_of_cell? wr _ c1
      have b2 := World.block_lt_of_cell? wr _ c2
      have g0 : (0 : Int) ≤ (k : Int) := by omega
      have g1 : (k : Int) < (hs.length : Int) := by omega
      go_wp2_with fail
      have HMK14 := Lib.hid (fun (W : World) (hW : Below wr.heap.size wr W) => (⟨⟨(hW.cell (p := ⟨g, off + k * 3, none⟩) (b0)).trans c0, (hW.cell (p := ⟨g, off + k * 3 + 1, none⟩) (b1)).trans c1, (hW.cell (p := ⟨g, off + k * 3 + 2, none⟩) (b2)).trans c2⟩, hW⟩ : (W.cell? ⟨g, off + k * 3, none⟩ = some (.int .i64 ow) ∧ W.cell? ⟨g, off + k * 3 + 1, none⟩ = some (.int .i64 n) ∧ W.cell? ⟨g, off + k * 3 + 2, none⟩ = some (.int .i64 d)) ∧ Below wr.heap.size wr W))
      refine wp_region_held_drew (S := (fun w' => (w'.cell? ⟨g, off + k * 3, none⟩ = some (.int .i64 ow) ∧ w'.cell? ⟨g, off + k * 3 + 1, none⟩ = some (.int .i64 n) ∧ w'.cell? ⟨g, off + k * 3 + 2, none⟩ = some (.int .i64 d)) ∧ Below wr.heap.size wr w')) (by kernel_rfl) ?_ (fun hHeld => ?_)
      · exact ⟨⟨c0, c1, c2⟩, (Below.refl _ _).drew⟩
      refine wpAnyH_take (i := 0) (oi := ?ooa15_) (v := ?vva15_) ?hia15_ (by kernel_rfl) ?h3a15_ ?h4a15_ ?h5a15_ ?h6a15_ (by assumption) ?h8a15_
      case hia15_ => (simp only [List.getElem?_toArray, List.getElem?_cons_succ, List.getElem?_cons_zero]; rfl)
      case h3a15_ => kernel_rfl
      case h4a15_ => kernel_rfl
      case h6a15_ => (refine Or.inl ⟨by rfl, ?_⟩; intro w hSw; (try dsimp only at hSw); (go_simp <;> with_reducible rfl))
      case h5a15_ => exact fun _ _ _ h => h
      try simp only [Act.put, List.setIfInBounds_toArray, List.set_cons_zero, List.set_cons_succ]
      refine wpAnyH_take (i := 1) (oi := ?ooa16_) (v := ?vva16_) ?hia16_ (by kernel_rfl) ?h3a16_ ?h4a16_ ?h5a16_ ?h6a16_ (by assumption) ?h8a16_
      case hia16_ => (simp only [List.getElem?_toArray, List.getElem?_cons_succ, List.getElem?_cons_zero]; rfl)
      case h3a16_ => kernel_rfl
      case h4a16_ => kernel_rfl
      case h6a16_ => (refine Or.inl ⟨by rfl, ?_⟩; intro w hSw; (try dsimp only at hSw); (go_simp <;> with_reducible rfl))
      case h5a16_ => exact fun _ _ _ h => h
      try simp only [Act.put, List.setIfInBounds_toArray, List.set_cons_zero, List.set_cons_succ]
      refine wpAnyH_take (i := 2) (oi := ?ooa17_) (v := ?vva17_) ?hia17_ (by kernel_rfl) ?h3a17_ ?h4a17_ ?h5a17_ ?h6a17_ (by assumption) ?h8a17_
      case hia17_ => (simp only [List.getElem?_toArray, List.getElem?_cons_succ, List.getElem?_cons_zero]; rfl)
      case h3a17_ => kernel_rfl
      case h4a17_ => kernel_rfl
      case h6a17_ => (refine Or.inl ⟨by rfl, ?_⟩; intro w hSw; (try dsimp only at hSw); (go_simp <;> with_reducible rfl))
      case h5a17_ => exact fun _ _ _ h => h
      try simp only [Act.put, List.setIfInBounds_toArray, List.set_cons_zero, List.set_cons_succ]
      refine wpAnyH_take (i := 3) (oi := ?ooa18_) (v := ?vva18_) ?hia18_ (by kernel_rfl) ?h3a18_ ?h4a18_ ?h5a18_ ?h6a18_ (by assumption) ?h8a18_
      case hia18_ => (simp only [List.getElem?_toArray, List.getElem?_cons_succ, List.getElem?_cons_zero]; rfl)
      case h3a18_ => kernel_rfl
      case h4a18_ => kernel_rfl
      case h6a18_ => (refine Or.inl ⟨by rfl, ?_⟩; intro w hSw; (try dsimp only at hSw); (go_simp <;> with_reducible rfl))
      case h5a18_ => exact fun _ _ _ h => h
      try simp only [Act.put, List.setIfInBounds_toArray, List.set_cons_zero, List.set_cons_succ]
      refine wpAnyH_take (i := 4) (oi := ?ooa19_) (v := ?vva19_) ?hia19_ (by kernel_rfl) ?h3a19_ ?h4a19_ ?h5a19_ ?h6a19_ (by assumption) ?h8a19_
      case hia19_ => (simp only [List.getElem?_toArray, List.getElem?_cons_succ, List.getElem?_cons_zero]; rfl)
      case h3a19_ => kernel_rfl
      case h4a19_ => kernel_rfl
      case h6a19_ => (refine Or.inl ⟨by rfl, ?_⟩; intro w hSw; (try dsimp only at hSw); (go_simp <;> with_reducible rfl))
      case h5a19_ => exact fun _ _ _ h => h
      try simp only [Act.put, List.setIfInBounds_toArray, List.set_cons_zero, List.set_cons_succ]
      refine wpAnyH_take (i := 5) (oi := ?ooa20_) (v := ?vva20_) ?hia20_ (by kernel_rfl) ?h3a20_ ?h4a20_ ?h5a20_ ?h6a20_ (by assumption) ?h8a20_
      case hia20_ => (simp only [List.getElem?_toArray, List.getElem?_cons_succ, List.getElem?_cons_zero]; rfl)
      case h3a20_ => kernel_rfl
      case h4a20_ => kernel_rfl
      case h6a20_ => (refine Or.inl ⟨by rfl, ?_⟩; intro w hSw; (try dsimp only at hSw); (go_simp <;> with_reducible rfl))
      case h5a20_ => exact fun _ _ _ h => h
      try simp only [Act.put, List.setIfInBounds_toArray, List.set_cons_zero, List.set_cons_succ]
      refine wpAnyH_take (i := 9) (oi := ?ooa21_) (v := ?vva21_) ?hia21_ (by kernel_rfl) ?h3a21_ ?h4a21_ ?h5a21_ ?h6a21_ (by assumption) ?h8a21_
      case hia21_ => (simp only [List.getElem?_toArray, List.getElem?_cons_succ, List.getElem?_cons_zero]; rfl)
      case h3a21_ => kernel_rfl
      case h4a21_ => kernel_rfl
      case h6a21_ => (refine Or.inl ⟨by rfl, ?_⟩; intro w hSw; (try dsimp only at hSw); (go_simp <;> with_reducible rfl))
      case h5a21_ => exact fun _ _ _ h => h
      try simp only [Act.put, List.setIfInBounds_toArray, List.set_cons_zero, List.set_cons_succ]
      refine wpAnyH_take (i := 10) (oi := ?ooa22_) (v := ?vva22_) ?hia22_ (by kernel_rfl) ?h3a22_ ?h4a22_ ?h5a22_ ?h6a22_ (by assumption) ?h8a22_
      case hia22_ => (simp only [List.getElem?_toArray, List.getElem?_cons_succ, List.getElem?_cons_zero]; rfl)
      case h3a22_ => kernel_rfl
      case h4a22_ => kernel_rfl
      case h6a22_ => (refine Or.inl ⟨by rfl, ?_⟩; intro w hSw; (try dsimp only at hSw); (go_simp <;> with_reducible rfl))
      case h5a22_ => exact fun _ _ _ h => h
      try simp only [Act.put, List.setIfInBounds_toArray, List.set_cons_zero, List.set_cons_succ]
      refine wpAnyH_take (i := 11) (oi := ?ooa23_) (v := ?vva23_) ?hia23_ (by kernel_rfl) ?h3a23_ ?h4a23_ ?h5a23_ ?h6a23_ (by assumption) ?h8a23_
      case hia23_ => (simp only [List.getElem?_toArray, List.getElem?_cons_succ, List.getElem?_cons_zero]; rfl)
      case h3a23_ => kernel_rfl
      case h4a23_ => kernel_rfl
      case h6a23_ => (refine Or.inl ⟨by rfl, ?_⟩; intro w hSw; (try dsimp only at hSw); (go_simp <;> with_reducible rfl))
      case h5a23_ => exact fun _ _ _ h => h
      try simp only [Act.put, List.setIfInBounds_toArray, List.set_cons_zero, List.set_cons_succ]
      refine wpAnyH_take (i := 12) (oi := ?ooa24_) (v := ?vva24_) ?hia24_ (by kernel_rfl) ?h3a24_ ?h4a24_ ?h5a24_ ?h6a24_ (by assumption) ?h8a24_
      case hia24_ => (simp only [List.getElem?_toArray, List.getElem?_cons_succ, List.getElem?_cons_zero]; rfl)
      case h3a24_ => kernel_rfl
      case h4a24_ => kernel_rfl
      case h6a24_ => (refine Or.inl ⟨by rfl, ?_⟩; intro w hSw; (try dsimp only at hSw); (go_simp <;> with_reducible rfl))
      case h5a24_ => exact fun _ _ _ h => h
      try simp only [Act.put, List.setIfInBounds_toArray, List.set_cons_zero, List.set_cons_succ]
      refine wpAnyH_take (i := 13) (oi := ?ooa25_) (v := ?vva25_) ?hia25_ (by kernel_rfl) ?h3a25_ ?h4a25_ ?h5a25_ ?h6a25_ (by assumption) ?h8a25_
      case hia25_ => (simp only [List.getElem?_toArray, List.getElem?_cons_succ, List.getElem?_cons_zero]; rfl)
      case h3a25_ => kernel_rfl
      case h4a25_ => kernel_rfl
      case h6a25_ => (refine Or.inl ⟨by rfl, ?_⟩; intro w hSw; (try dsimp only at hSw); (go_simp <;> with_reducible rfl))
      case h5a25_ => exact fun _ _ _ h => h
      try simp only [Act.put, List.setIfInBounds_toArray, List.set_cons_zero, List.set_cons_succ]
      refine wpAnyH_ready (rs := [6]) (by kernel_rfl) (by simp) (AllReadyH.cons (o := ?ooa26_q0) ?hia26_q0 (fun K hK => ?hka26_q0) AllReadyH.nil)
      case hia26_q0 => (simp only [List.getElem?_toArray, List.getElem?_cons_succ, List.getElem?_cons_zero]; rfl)
      case hka26_q0 =>
        (rw [if_pos (by rfl)]; go_simp; refine (HKD.out _).mono ?_; rintro e w' ⟨rfl, rfl⟩; go_wp2_with fail; refine hK.out _ _ (hHeld) (fun hHeld => ?_); clear hK K)
        try simp only [Act.put, List.setIfInBounds_toArray, List.set_cons_zero, List.set_cons_succ]
        refine wpAnyH_take (i := 7) (oi := ?ooa27_) (v := ?vva27_) ?hia27_ (by kernel_rfl) ?h3a27_ ?h4a27_ ?h5a27_ ?h6a27_ (by assumption) ?h8a27_
        case hia27_ => (simp only [List.getElem?_toArray, List.getElem?_cons_succ, List.getElem?_cons_zero]; rfl)
        case h3a27_ => kernel_rfl
        case h4a27_ => kernel_rfl
        case h6a27_ => (refine Or.inl ⟨by rfl, ?_⟩; intro w hSw; (try dsimp only at hSw); (go_simp <;> with_reducible rfl))
        case h5a27_ => exact fun _ _ _ h => h
        try simp only [Act.put, List.setIfInBounds_toArray, List.set_cons_zero, List.set_cons_succ]
        refine wpAnyH_take (i := 8) (oi := ?ooa28_) (v := ?vva28_) ?hia28_ (by kernel_rfl) ?h3a28_ ?h4a28_ ?h5a28_ ?h6a28_ (by assumption) ?h8a28_
        case hia28_ => (simp only [List.getElem?_toArray, List.getElem?_cons_succ, List.getElem?_cons_zero]; rfl)
        case h3a28_ => kernel_rfl
        case h4a28_ => kernel_rfl
        case h6a28_ => (refine Or.inl ⟨by rfl, ?_⟩; intro w hSw; (try dsimp only at hSw); (go_simp <;> with_reducible rfl))
        case h5a28_ => exact fun _ _ _ h => h
        try simp only [Act.put, List.setIfInBounds_toArray, List.set_cons_zero, List.set_cons_succ]
        refine wpAnyH_ready (rs := [14]) (by kernel_rfl) (by simp) (AllReadyH.cons (o := ?ooa29_q0) ?hia29_q0 (fun K hK => ?hka29_q0) AllReadyH.nil)
        case hia29_q0 => (simp only [List.getElem?_toArray, List.getElem?_cons_succ, List.getElem?_cons_zero]; rfl)
        case hka29_q0 =>
          (rw [if_pos (by rfl)]; go_simp; refine (HKF.out _).mono ?_; rintro e w14_ ⟨rfl, C_⟩; go_wp2_with fail; refine hK.out _ _ (HMK14.out _ (bel_tr hHeld.2 C_)) (fun hHeld => ?_); clear hK K)
          try simp only [Act.put, List.setIfInBounds_toArray, List.set_cons_zero, List.set_cons_succ]
          refine wpAnyH_take (i := 15) (oi := ?ooa30_) (v := ?vva30_) ?hia30_ (by kernel_rfl) ?h3a30_ ?h4a30_ ?h5a30_ ?h6a30_ (by assumption) ?h8a30_
          case hia30_ => (simp only [List.getElem?_toArray, List.getElem?_cons_succ, List.getElem?_cons_zero]; rfl)
          case h3a30_ => kernel_rfl
          case h4a30_ => kernel_rfl
          case h6a30_ => (refine Or.inl ⟨by rfl, ?_⟩; intro w hSw; (try dsimp only at hSw); (go_simp <;> with_reducible rfl))
          case h5a30_ => exact fun _ _ _ h => h
          try simp only [Act.put, List.setIfInBounds_toArray, List.set_cons_zero, List.set_cons_succ]
          refine wpAnyH_take (i := 16) (oi := ?ooa31_) (v := ?vva31_) ?hia31_ (by kernel_rfl) ?h3a31_ ?h4a31_ ?h5a31_ ?h6a31_ (by assumption) ?h8a31_
          case hia31_ => (simp only [List.getElem?_toArray, List.getElem?_cons_succ, List.getElem?_cons_zero]; rfl)
          case h3a31_ => kernel_rfl
          case h4a31_ => kernel_rfl
          case h6a31_ => (refine Or.inl ⟨by rfl, ?_⟩; intro w hSw; (try dsimp only at hSw); (go_simp <;> with_reducible rfl))
          case h5a31_ => exact fun _ _ _ h => h
          try simp only [Act.put, List.setIfInBounds_toArray, List.set_cons_zero, List.set_cons_succ]
          refine wpAnyH_take (i := 17) (oi := ?ooa32_) (v := ?vva32_) ?hia32_ (by kernel_rfl) ?h3a32_ ?h4a32_ ?h5a32_ ?h6a32_ (by assumption) ?h8a32_
          case hia32_ => (simp only [List.getElem?_toArray, List.getElem?_cons_succ, List.getElem?_cons_zero]; rfl)
          case h3a32_ => kernel_rfl
          case h4a32_ => kernel_rfl
          case h6a32_ => (refine Or.inl ⟨by rfl, ?_⟩; intro w hSw; (try dsimp only at hSw); (go_simp <;> with_reducible rfl))
          case h5a32_ => exact fun _ _ _ h => h
          try simp only [Act.put, List.setIfInBounds_toArray, List.set_cons_zero, List.set_cons_succ]
          refine wpAnyH_done (by kernel_rfl) ?_ _
          clear HMK14
          have B := bel_tr BA hHeld.2
          clear hHeld
          go_wp2_with fail
          go_roundw
          case rel => exact ⟨k + 1, by omega, by go_num, by rw [HT.out], B⟩
          case measure => simp [intOf]; omega
    · obtain rfl : k = hs.length := by omega
      have HZ : Hid (txt (ltk hs hs.length) = txt (textB hs)) := Lib.hid (by rw [ltk_all])
      go_wp2_with fail
      go_ret
      exact ⟨ret_str HZ.out, hB⟩
end Go.Proofs.Ytdlbjmhjaljlfaa
