/- FormatLedger, by the program. Condition: at most 1048576 holdings. -/
import Derived.Test.YtdlbjmhjaljlfaaLgtP
import Derived.Test.YtdlbjmhjaljlfaaHoldV
import Derived.Test.YtdlbjmhjaljlfaaFmtF
namespace Go.Proofs.Ytdlbjmhjaljlfaa
open Go.RowKit
set_option linter.unusedSimpArgs false
set_option linter.unusedVariables false
set_option maxRecDepth 100000 in
set_option maxHeartbeats 4000000 in
/-- impl.FormatLedger -/
theorem iFmtL (a : Option Addr) (cap : Nat) (hs : List Hd) (w : World) (h : IsHs w a hs) (hn : hs.length ≤ 1048576) :
    Calls Try.prog 25 #[.slice a hs.length cap] w fun e w' => e = .returned (.string (flT hs)) ∧ Below w.heap.size w w' := by
  have CV := fun W (c : IsHs W a hs) => iVL a cap hs W c hn
  have HI := Lib.hid h
  clear h
  cases hv : vlR hs with
  | false =>
    rw [hv] at CV
    have HX := Lib.hid (fl_no hv)
    clear hv
    go_enter Try.func25, Try.ntmps25
    go_wp2_with fail
    refine (CV _ HI.out).mono ?_
    rintro e w1 ⟨rfl, B⟩
    go_wp2_with fail
    go_ret
    exact ⟨ret_str HX.out.symm, B⟩
  | true =>
    rw [hv] at CV
    have HX := Lib.hid (fl_yes hv)
    have HV := Lib.hid hv
    clear hv
    rcases HI.out with rfl | ⟨g, off, rfl, hc⟩
    · exact absurd HV.out (by decide)
    have HC := Lib.hid hc
    clear hc
    have CF : ∀ (n d : Int) (W : World), Wsh.vfB n d = true → Calls Try.prog 69 #[.agg #[.int .i64 n, .int .i64 d]] W fun e w' => e = .returned (.string (txt (decL n.toNat ++ 47 :: decL d.toNat))) ∧ Below W.heap.size W w' := fun n d W e => by have := iFmt n d W; rw [fm_yes e] at this; exact this
    have CD : ∀ (o : Int) (W : World), 1 ≤ o → o ≤ 999 → Calls Try.prog 68 #[.int .i64 o] W fun e w' => e = .returned (.string (txt (decL o.toNat))) ∧ W = w' := fun o W h1 h2 => idecI o W (by omega) (by omega)
    go_enter Try.func25, Try.ntmps25
    go_wp2_with fail
    refine (CV _ HI.out).mono ?_
    rintro e w1 ⟨rfl, B⟩
    clear HI CV
    go_wp2_with fail
    go_loopw [3, 11] (fun t i wr => ∃ k : Nat, k ≤ hs.length ∧ i = .int .i64 k ∧ t = .string (txt (ltk hs k)) ∧ Below w.heap.size w wr) (fun _ i _ => hs.length - (intOf i).toNat)
    case atStart => exact ⟨0, Nat.zero_le _, rfl, by rw [ltk_zero]; rfl, B⟩
    case round =>
      clear B
      obtain ⟨k, hk, rfl, rfl, hB⟩ := hrel
      by_cases hlt : k < hs.length
      · obtain ⟨c0, c1, c2⟩ := cells_at HC.out hB hlt
        have hkl : k < hs.length := hlt
        obtain ⟨v1, v2, v3⟩ := vl_at HV.out hkl
        have l0 := ltk_len HV.out k hk
        have hN := fun (o n d : Int) => ltk_next (hs := hs) (k := k) (o := o) (n := n) (d := d) hkl
        generalize hs.getD k hd0 = hh at c0 c1 c2 v1 v2 v3 hN
        obtain ⟨ow, n, d⟩ := hh
        have hT := hN ow n d rfl
        dsimp only at c0 c1 c2 v1 v2 v3
        clear hN
        have KF := fun W => CF n d W v3
        obtain ⟨y1, y2, y3, y4, _⟩ := (Wsh.vfB_iff _ _).1 v3
        have KD := fun W => CD ow W v1 v2
        have l1 := dec_small (n := ow) (by omega)
        have l2 := dec_small (n := n) (by omega)
        have l3 := dec_small (n := d) (by omega)
        have l5 := vl_len HV.out
        have l4 : (ltk hs k).length ≤ 384 := by omega
        clear v1 v2 v3 l0 y1 y2 y3 y4 l5
        generalize ltk hs k = T at *
        generalize decL ow.toNat = A1 at *
        have lF : (decL n.toNat ++ 47 :: decL d.toNat).length ≤ 17 := by simp; omega
        generalize decL n.toNat ++ 47 :: decL d.toNat = F at *
        have a1 := fun w => add_txt T A1 w (by omega)
        have a2 : ∀ w, (Op.stringOp .add (txt (T ++ A1)) ({ data := #[32] } : ByteArray)).run Try.prog w = .ok (.string (txt (T ++ A1 ++ [32]))) w := fun w => add_txt (T ++ A1) [32] w (by simp; omega)
        have a3 := fun w => add_txt (T ++ A1 ++ [32]) F w (by simp; omega)
        have a4 : ∀ w, (Op.stringOp .add (txt (T ++ A1 ++ [32] ++ F)) ({ data := #[10] } : ByteArray)).run Try.prog w = .ok (.string (txt (T ++ A1 ++ [32] ++ F ++ [10]))) w := fun w => add_txt (T ++ A1 ++ [32] ++ F) [10] w (by simp; omega)
        generalize T ++ A1 ++ [32] ++ F ++ [10] = X4 at *
        generalize T ++ A1 ++ [32] ++ F = X3 at *
        generalize T ++ A1 ++ [32] = X2 at *
        generalize T ++ A1 = X1 at *
        clear l1 l2 l3 l4 lF
        have HT := Lib.hid hT
        have HKF := Lib.hid KF
        have HKD := Lib.hid KD
        clear KF KD hT
        clear CF CD
        go_wp2_with fail
        have K := Blk.new wr 85 #[.int .i64 ow, .int .i64 n, .int .i64 d]
        have BA := hB.alloc hB.size (.cells #[.int .i64 ow, .int .i64 n, .int .i64 d] 85)
        have k0 := K.cell 0
        have k1 := K.cell 1
        have k2 := K.cell 2
        simp only [List.getElem?_toArray, List.getElem?_cons_zero, List.getElem?_cons_succ] at k0 k1 k2
        generalize wr.alloc (.cells #[.int .i64 ow, .int .i64 n, .int .i64 d] 85) = U at K BA k0 k1 k2 ⊢
        clear c0 c1 c2
        have HMK1 := Lib.hid (fun (W : World) (hW : Below U.heap.size U W) => (⟨⟨(hW.cell (p := ⟨wr.heap.size, 0, none⟩) (K.lt)).trans k0, (hW.cell (p := ⟨wr.heap.size, 1, none⟩) (K.lt)).trans k1, (hW.cell (p := ⟨wr.heap.size, 2, none⟩) (K.lt)).trans k2⟩, hW⟩ : (W.cell? ⟨wr.heap.size, 0, none⟩ = some (.int .i64 ow) ∧ W.cell? ⟨wr.heap.size, 1, none⟩ = some (.int .i64 n) ∧ W.cell? ⟨wr.heap.size, 2, none⟩ = some (.int .i64 d)) ∧ Below U.heap.size U W))
        refine wp_region_held_drew (S := (fun w' => (w'.cell? ⟨wr.heap.size, 0, none⟩ = some (.int .i64 ow) ∧ w'.cell? ⟨wr.heap.size, 1, none⟩ = some (.int .i64 n) ∧ w'.cell? ⟨wr.heap.size, 2, none⟩ = some (.int .i64 d)) ∧ Below U.heap.size U w')) (by kernel_rfl) ?_ (fun hHeld => ?_)
        · exact ⟨⟨k0, k1, k2⟩, (Below.refl _ _).drew⟩
        refine wpAnyH_take (i := 0) (oi := ?ooa2_) (v := ?vva2_) ?hia2_ (by kernel_rfl) ?h3a2_ ?h4a2_ ?h5a2_ ?h6a2_ (by assumption) ?h8a2_
        case hia2_ => (simp only [List.getElem?_toArray, List.getElem?_cons_succ, List.getElem?_cons_zero]; rfl)
        case h3a2_ => kernel_rfl
        case h4a2_ => kernel_rfl
        case h6a2_ => (refine Or.inl ⟨by rfl, ?_⟩; intro w hSw; (try dsimp only at hSw); (go_simp <;> with_reducible rfl))
        case h5a2_ => exact fun _ _ _ h => h
        try simp only [Act.put, List.setIfInBounds_toArray, List.set_cons_zero, List.set_cons_succ]
        refine wpAnyH_take (i := 1) (oi := ?ooa3_) (v := ?vva3_) ?hia3_ (by kernel_rfl) ?h3a3_ ?h4a3_ ?h5a3_ ?h6a3_ (by assumption) ?h8a3_
        case hia3_ => (simp only [List.getElem?_toArray, List.getElem?_cons_succ, List.getElem?_cons_zero]; rfl)
        case h3a3_ => kernel_rfl
        case h4a3_ => kernel_rfl
        case h6a3_ => (refine Or.inl ⟨by rfl, ?_⟩; intro w hSw; (try dsimp only at hSw); (go_simp <;> with_reducible rfl))
        case h5a3_ => exact fun _ _ _ h => h
        try simp only [Act.put, List.setIfInBounds_toArray, List.set_cons_zero, List.set_cons_succ]
        refine wpAnyH_take (i := 2) (oi := ?ooa4_) (v := ?vva4_) ?hia4_ (by kernel_rfl) ?h3a4_ ?h4a4_ ?h5a4_ ?h6a4_ (by assumption) ?h8a4_
        case hia4_ => (simp only [List.getElem?_toArray, List.getElem?_cons_succ, List.getElem?_cons_zero]; rfl)
        case h3a4_ => kernel_rfl
        case h4a4_ => kernel_rfl
        case h6a4_ => (refine Or.inl ⟨by rfl, ?_⟩; intro w hSw; (try dsimp only at hSw); (go_simp <;> with_reducible rfl))
        case h5a4_ => exact fun _ _ _ h => h
        try simp only [Act.put, List.setIfInBounds_toArray, List.set_cons_zero, List.set_cons_succ]
        refine wpAnyH_take (i := 6) (oi := ?ooa5_) (v := ?vva5_) ?hia5_ (by kernel_rfl) ?h3a5_ ?h4a5_ ?h5a5_ ?h6a5_ (by assumption) ?h8a5_
        case hia5_ => (simp only [List.getElem?_toArray, List.getElem?_cons_succ, List.getElem?_cons_zero]; rfl)
        case h3a5_ => kernel_rfl
        case h4a5_ => kernel_rfl
        case h6a5_ => (refine Or.inl ⟨by rfl, ?_⟩; intro w hSw; (try dsimp only at hSw); (go_simp <;> with_reducible rfl))
        case h5a5_ => exact fun _ _ _ h => h
        try simp only [Act.put, List.setIfInBounds_toArray, List.set_cons_zero, List.set_cons_succ]
        refine wpAnyH_take (i := 7) (oi := ?ooa6_) (v := ?vva6_) ?hia6_ (by kernel_rfl) ?h3a6_ ?h4a6_ ?h5a6_ ?h6a6_ (by assumption) ?h8a6_
        case hia6_ => (simp only [List.getElem?_toArray, List.getElem?_cons_succ, List.getElem?_cons_zero]; rfl)
        case h3a6_ => kernel_rfl
        case h4a6_ => kernel_rfl
        case h6a6_ => (refine Or.inl ⟨by rfl, ?_⟩; intro w hSw; (try dsimp only at hSw); (go_simp <;> with_reducible rfl))
        case h5a6_ => exact fun _ _ _ h => h
        try simp only [Act.put, List.setIfInBounds_toArray, List.set_cons_zero, List.set_cons_succ]
        refine wpAnyH_ready (rs := [3]) (by kernel_rfl) (by simp) (AllReadyH.cons (o := ?ooa7_q0) ?hia7_q0 (fun K hK => ?hka7_q0) AllReadyH.nil)
        case hia7_q0 => (simp only [List.getElem?_toArray, List.getElem?_cons_succ, List.getElem?_cons_zero]; rfl)
        case hka7_q0 =>
          (rw [if_pos (by rfl)]; go_simp; refine (HKD.out _).mono ?_; rintro e w' ⟨rfl, rfl⟩; go_wp2_with fail; refine hK.out _ _ (hHeld) (fun hHeld => ?_); clear hK K)
          try simp only [Act.put, List.setIfInBounds_toArray, List.set_cons_zero, List.set_cons_succ]
          refine wpAnyH_take (i := 4) (oi := ?ooa8_) (v := ?vva8_) ?hia8_ (by kernel_rfl) ?h3a8_ ?h4a8_ ?h5a8_ ?h6a8_ (by assumption) ?h8a8_
          case hia8_ => (simp only [List.getElem?_toArray, List.getElem?_cons_succ, List.getElem?_cons_zero]; rfl)
          case h3a8_ => kernel_rfl
          case h4a8_ => kernel_rfl
          case h6a8_ => (refine Or.inl ⟨by rfl, ?_⟩; intro w hSw; (try dsimp only at hSw); (go_simp <;> with_reducible rfl))
          case h5a8_ => exact fun _ _ _ h => h
          try simp only [Act.put, List.setIfInBounds_toArray, List.set_cons_zero, List.set_cons_succ]
          refine wpAnyH_take (i := 5) (oi := ?ooa9_) (v := ?vva9_) ?hia9_ (by kernel_rfl) ?h3a9_ ?h4a9_ ?h5a9_ ?h6a9_ (by assumption) ?h8a9_
          case hia9_ => (simp only [List.getElem?_toArray, List.getElem?_cons_succ, List.getElem?_cons_zero]; rfl)
          case h3a9_ => kernel_rfl
          case h4a9_ => kernel_rfl
          case h6a9_ => (refine Or.inl ⟨by rfl, ?_⟩; intro w hSw; (try dsimp only at hSw); (go_simp <;> with_reducible rfl))
          case h5a9_ => exact fun _ _ _ h => h
          try simp only [Act.put, List.setIfInBounds_toArray, List.set_cons_zero, List.set_cons_succ]
          refine wpAnyH_ready (rs := [8]) (by kernel_rfl) (by simp) (AllReadyH.cons (o := ?ooa10_q0) ?hia10_q0 (fun K hK => ?hka10_q0) AllReadyH.nil)
          case hia10_q0 => (simp only [List.getElem?_toArray, List.getElem?_cons_succ, List.getElem?_cons_zero]; rfl)
          case hka10_q0 =>
            (rw [if_pos (by rfl)]; go_simp; refine (HKF.out _).mono ?_; rintro e w8_ ⟨rfl, C_⟩; go_wp2_with fail; refine hK.out _ _ (HMK1.out _ (bel_tr hHeld.2 C_)) (fun hHeld => ?_); clear hK K)
            try simp only [Act.put, List.setIfInBounds_toArray, List.set_cons_zero, List.set_cons_succ]
            refine wpAnyH_take (i := 9) (oi := ?ooa11_) (v := ?vva11_) ?hia11_ (by kernel_rfl) ?h3a11_ ?h4a11_ ?h5a11_ ?h6a11_ (by assumption) ?h8a11_
            case hia11_ => (simp only [List.getElem?_toArray, List.getElem?_cons_succ, List.getElem?_cons_zero]; rfl)
            case h3a11_ => kernel_rfl
            case h4a11_ => kernel_rfl
            case h6a11_ => (refine Or.inl ⟨by rfl, ?_⟩; intro w hSw; (try dsimp only at hSw); (go_simp <;> with_reducible rfl))
            case h5a11_ => exact fun _ _ _ h => h
            try simp only [Act.put, List.setIfInBounds_toArray, List.set_cons_zero, List.set_cons_succ]
            refine wpAnyH_take (i := 10) (oi := ?ooa12_) (v := ?vva12_) ?hia12_ (by kernel_rfl) ?h3a12_ ?h4a12_ ?h5a12_ ?h6a12_ (by assumption) ?h8a12_
            case hia12_ => (simp only [List.getElem?_toArray, List.getElem?_cons_succ, List.getElem?_cons_zero]; rfl)
            case h3a12_ => kernel_rfl
            case h4a12_ => kernel_rfl
            case h6a12_ => (refine Or.inl ⟨by rfl, ?_⟩; intro w hSw; (try dsimp only at hSw); (go_simp <;> with_reducible rfl))
            case h5a12_ => exact fun _ _ _ h => h
            try simp only [Act.put, List.setIfInBounds_toArray, List.set_cons_zero, List.set_cons_succ]
            refine wpAnyH_take (i := 11) (oi := ?ooa13_) (v := ?vva13_) ?hia13_ (by kernel_rfl) ?h3a13_ ?h4a13_ ?h5a13_ ?h6a13_ (by assumption) ?h8a13_
            case hia13_ => (simp only [List.getElem?_toArray, List.getElem?_cons_succ, List.getElem?_cons_zero]; rfl)
            case h3a13_ => kernel_rfl
            case h4a13_ => kernel_rfl
            case h6a13_ => (refine Or.inl ⟨by rfl, ?_⟩; intro w hSw; (try dsimp only at hSw); (go_simp <;> with_reducible rfl))
            case h5a13_ => exact fun _ _ _ h => h
            try simp only [Act.put, List.setIfInBounds_toArray, List.set_cons_zero, List.set_cons_succ]
            refine wpAnyH_done (by kernel_rfl) ?_ _
            clear HMK1
            have B := bel_tr BA hHeld.2
            clear hHeld
            go_wp2_with fail
            go_roundw
            case rel => exact ⟨k + 1, by omega, by go_num, by rw [HT.out], B⟩
            case measure => simp [intOf]; omega
      · obtain rfl : k = hs.length := by omega
        have HZ : Hid (txt (ltk hs hs.length) = flT hs) := Lib.hid (by rw [HX.out, ltk_all])
        go_wp2_with fail
        go_ret
        exact ⟨ret_str HZ.out, hB⟩
end Go.Proofs.Ytdlbjmhjaljlfaa
