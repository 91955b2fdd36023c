/- Texts of events, by the model. No condition. -/
import Derived.Test.YtaehemmjemhgpaaPCG0
import Derived.Test.YtaehemmjemhgpaaPCG2
import Derived.Test.YtaehemmjemhgpaaPCG4
import Derived.Test.YtaehemmjemhgpaaPCG1
import Derived.Deep.RegionHeld3
import Derived.Deep.RegionWith
import Derived.Deep.QuietTactic
import Derived.BigQuiet
import Derived.RegionTactic
set_option maxRecDepth 100000
set_option maxHeartbeats 16000000
namespace Go.Proofs.Ytaehemmjemhgpaa
open Go.RowKit
set_option linter.unusedSimpArgs false
set_option linter.unusedVariables false

theorem sown3 (n : Int) (w : World) :
    Calls Try.prog 112 #[.int .i64 n, .int .i64 1, .int .i64 999] w fun e w' => e = .returned (.bool (ownB n)) ∧ w = w' := by
  cases a : ownB n with
  | true => exact jqh n 1 999 w (own_iff.1 a).1 (own_iff.1 a).2
  | false => exact jz6 n 1 999 w (by have : ¬ (1 ≤ n ∧ n ≤ 999) := fun c => by rw [own_iff.2 c] at a; cases a
                                     omega)
theorem ssml3 (n : Int) (w : World) :
    Calls Try.prog 112 #[.int .i64 n, .int .i64 0, .int .i64 9999] w fun e w' => e = .returned (.bool (smlB n)) ∧ w = w' := by
  cases a : smlB n with
  | true => exact jqh n 0 9999 w (sml_iff.1 a).1 (sml_iff.1 a).2
  | false => exact jz6 n 0 9999 w (by have : ¬ (0 ≤ n ∧ n ≤ 9999) := fun c => by rw [sml_iff.2 c] at a; cases a
                                      omega)
theorem sshowD (A : Option Addr) (cz : Nat) (x : Dd) (w : World) (h : jqf w A x.zs) :
    Calls Try.prog 142 #[.agg #[.int .i64 x.k, .int .i64 x.o, .int .i64 x.t, .int .i64 x.n, .int .i64 x.d, .slice A x.zs.length cz]] w fun e w' => e = .returned (.string (txt (ddT x))) ∧ Below w.heap.size w w' := by
  obtain ⟨dk, o, t, n, d, zs⟩ := x; dsimp only at h ⊢; have B := (Below.refl w.heap.size w).alloc (Nat.le_refl _) (.cells #[.int .i64 dk, .int .i64 o, .int .i64 t, .int .i64 n, .int .i64 d, .slice A zs.length cz] 61); have K := Blk.new w 61 #[.int .i64 dk, .int .i64 o, .int .i64 t, .int .i64 n, .int .i64 d, .slice A zs.length cz]; have hI := jq9 h B; clear h; generalize hU : w.alloc (.cells #[.int .i64 dk, .int .i64 o, .int .i64 t, .int .i64 n, .int .i64 d, .slice A zs.length cz] 61) = U at B K hI; obtain ⟨q0, q1, q2, q3, q4, q5⟩ := cells6 K; have HU := Lib.hid hU; have HI := Lib.hid hI; have hlt0 := K.lt; clear hU hI K; have HOUT := Lib.hid (dd_out (x := ⟨dk, o, t, n, d, zs⟩)); dsimp only at HOUT; have CW := sown3 o U
  cases e1 : ownB o with
  | false =>
    have HX : Hid (txt (ddT ⟨dk, o, t, n, d, zs⟩) = txt []) := Lib.hid (by rw [HOUT.out (by rw [e1]; simp)]); rw [e1] at CW; clear e1 HOUT; go_enter Try.func142, Try.ntmps142; go_wp2_with fail; rw [HU.out]; refine CW.mono ?_; rintro e w' ⟨rfl, rfl⟩; go_wp2_with fail; go_ret; exact ⟨jz1 HX.out.symm, B⟩
  | true =>
    rw [e1] at CW; have bo := own_bd e1
    by_cases c1 : dk = 1
    · subst c1
      by_cases e2 : zs.length ≤ 12
      case neg =>
        have HX : Hid (txt (ddT ⟨1, o, t, n, d, zs⟩) = txt []) := Lib.hid (by rw [HOUT.out (fun c => e2 c.2)])
        have z3 : (12 : Int) < (zs.length : Int) := by omega
        clear HOUT e1 e2; go_enter Try.func142, Try.ntmps142; go_wp2_with fail; rw [HU.out]; refine CW.mono ?_; rintro e w' ⟨rfl, rfl⟩; go_wp2_with fail; go_ret; exact ⟨jz1 HX.out.symm, B⟩
      have z2 : ¬ (12 : Int) < (zs.length : Int) := by omega
      have HX : Hid (txt (ddT ⟨1, o, t, n, d, zs⟩) = txt (hrV o zs)) := Lib.hid (by
        cases z : zs.all ownB with
        | true => rw [dd_inh (x := ⟨1, o, t, n, d, zs⟩) ⟨e1, e2⟩ rfl z]; unfold hrV; rw [z]; rfl
        | false => rw [dd_inhN (x := ⟨1, o, t, n, d, zs⟩) rfl z]; unfold hrV; rw [z]; rfl)
      have l0 := nT_len (n := o) bo.1 (by omega); have CO := snumI o U bo.1 (by omega)
      have a0 : ∀ w, (Op.stringOp .add ({ data := #[105, 110, 104, 101, 114, 105, 116, 32] } : ByteArray) (txt (decL o.toNat))).run Try.prog w = .ok (.string (txt (hrT o zs 0))) w := fun w => by
        have e : hrT o zs 0 = (kInh ++ [32]) ++ decL o.toNat := by rw [hr_zero]; simp [spT, nT]
        rw [e]; exact jz2 (kInh ++ [32]) (decL o.toNat) w (by simp [kInh]; unfold nT at l0; omega)
      have HL := Lib.hid (fun k hk => hr_len (o := o) (zs := zs) ⟨bo.1, by omega⟩ k hk); clear HOUT e1 e2 l0 bo; generalize decL o.toNat = X0 at *; go_enter Try.func142, Try.ntmps142; go_wp2_with fail; rw [HU.out]; refine CW.mono ?_; rintro e w' ⟨rfl, rfl⟩; go_wp2_with fail; refine CO.mono ?_; rintro e w' ⟨rfl, rfl⟩; go_wp2_with fail; clear CO a0
      go_loop [3, 4] (fun tx i => ∃ k : Nat, k ≤ zs.length ∧ i = .int .i64 k ∧ tx = .string (txt (hrT o zs k)) ∧ Hid (∀ j, j < k → ownB (zs.getD j 0) = true)) (fun _ i => zs.length - (intOf i).toNat)
      case atStart => exact ⟨0, Nat.zero_le _, rfl, rfl, fun j hj => absurd hj (Nat.not_lt_zero _)⟩
      case round =>
        obtain ⟨k, hk, rfl, rfl, HO⟩ := hrel
        by_cases hlt : k < zs.length
        · rcases HI.out with hz | ⟨g, off, rfl, hc⟩
          · rw [hz] at hlt; exact absurd hlt (Nat.not_lt_zero _)
          have c0 := hc k hlt; clear hc
          have hk0 : (0 : Int) ≤ (k : Int) := by omega
          have hk1 : (k : Int) < (zs.length : Int) := by omega
          have CZ := sown3 (zs.getD k 0) U
          cases ez : ownB (zs.getD k 0) with
          | false =>
            have HY : Hid ((hrV o zs) = []) := Lib.hid (by unfold hrV; rw [all_not hlt ez]; rfl); rw [ez] at CZ; clear ez; generalize zs.getD k 0 = z at *; go_wp2_with fail; refine CZ.mono ?_; rintro e w' ⟨rfl, rfl⟩; go_wp2_with fail; go_ret; exact ⟨jz1 (by rw [HX.out, HY.out] <;> rfl), B⟩
          | true =>
            have bz := own_bd ez; have HN := Lib.hid (hr_next (o := o) hlt)
            have HO2 : Hid (∀ j, j < k + 1 → ownB (zs.getD j 0) = true) := fun j hj => by
              by_cases e : j = k
              · subst e; exact ez
              · exact HO.out j (by omega)
            have l1 := HL.out k (fun j hj _ => by have := own_bd (HO.out j hj); omega); have l2 := nT_len (n := zs.getD k 0) bz.1 (by omega); have CS := snumI (zs.getD k 0) U bz.1 (by omega); rw [ez] at CZ; clear ez bz; generalize zs.getD k 0 = z at *; generalize hrT o zs k = T at *; unfold nT at l2
            have a1 : ∀ w, (Op.stringOp .add (txt T) ({ data := #[32] } : ByteArray)).run Try.prog w = .ok (.string (txt (T ++ [32]))) w := fun w => jz2 T [32] w (by simp; omega)
            have a2 := fun w => jz2 (T ++ [32]) (decL z.toNat) w (by simp; omega)
            have HE : Hid (T ++ [32] ++ decL z.toNat = T ++ spT z) := Lib.hid (by simp [spT, nT]); clear l1 l2; generalize T ++ [32] ++ decL z.toNat = T2 at *; generalize T ++ [32] = T1 at *; generalize decL z.toNat = Z at *; go_wp2_with fail; refine CZ.mono ?_; rintro e w' ⟨rfl, rfl⟩; go_wp2_with fail; refine CS.mono ?_; rintro e w' ⟨rfl, rfl⟩; go_wp2_with fail
            go_round
            case rel => exact ⟨k + 1, by omega, by go_num, by rw [HE.out, HN.out], HO2⟩
            case measure => simp [intOf]; omega
        · obtain rfl : k = zs.length := by omega
          have HY : Hid ((hrV o zs) = hrT o zs zs.length) := Lib.hid (by unfold hrV; rw [all_up HO.out]; rfl); go_wp2_with fail; go_ret; exact ⟨jz1 (by rw [HX.out, HY.out]), B⟩
    have CT := sown3 t U
    have c1b : (dk != 1) = true := by simp [c1]
    have c1d : decide (dk = 1) = false := decide_eq_false c1
    cases e3 : ownB t with
    | false =>
      have HX : Hid (txt (ddT ⟨dk, o, t, n, d, zs⟩) = txt []) := Lib.hid (by rw [dd_oth (x := ⟨dk, o, t, n, d, zs⟩) c1 e3]); rw [e3] at CT; clear e1 e3 HOUT; go_enter Try.func142, Try.ntmps142; go_wp2_with fail; rw [HU.out]; refine CW.mono ?_; rintro e w' ⟨rfl, rfl⟩; go_wp2_with fail; refine CT.mono ?_; rintro e w' ⟨rfl, rfl⟩; go_wp2_with fail; go_ret; exact ⟨jz1 HX.out.symm, B⟩
    | true =>
      rw [e3] at CT
      by_cases e2 : zs.length ≤ 12
      case neg =>
        have HX : Hid (txt (ddT ⟨dk, o, t, n, d, zs⟩) = txt []) := Lib.hid (by rw [HOUT.out (fun c => e2 c.2)])
        have z3 : (12 : Int) < (zs.length : Int) := by omega
        clear HOUT e1 e2 e3; go_enter Try.func142, Try.ntmps142; go_wp2_with fail; rw [HU.out]; refine CW.mono ?_; rintro e w' ⟨rfl, rfl⟩; go_wp2_with fail; refine CT.mono ?_; rintro e w' ⟨rfl, rfl⟩; go_wp2_with fail; go_ret; exact ⟨jz1 HX.out.symm, B⟩
      have z2 : ¬ (12 : Int) < (zs.length : Int) := by omega
      clear HOUT; have bt_ := own_bd e3; have lo := nT_len (n := o) bo.1 (by omega); have lt_ := nT_len (n := t) bt_.1 (by omega); unfold nT at lo lt_
      have CSO := fun W => snumI o W bo.1 (by omega)
      have CST := fun W => snumI t W bt_.1 (by omega)
      by_cases c2 : dk = 2
      · subst c2
        have HX : Hid (txt (ddT ⟨2, o, t, n, d, zs⟩) = txt (jzb ++ [32] ++ decL o.toNat ++ [32] ++ decL t.toNat)) := Lib.hid (by rw [dd_join (x := ⟨2, o, t, n, d, zs⟩) ⟨e1, e2⟩ rfl e3]; simp [spT, nT])
        have a1 : ∀ w, (Op.stringOp .add ({ data := #[106, 111, 105, 110, 32] } : ByteArray) (txt (decL o.toNat))).run Try.prog w = .ok (.string (txt (jzb ++ [32] ++ decL o.toNat))) w := fun w => by have := jz2 (jzb ++ [32]) (decL o.toNat) w (by simp [jzb]; omega); exact this
        have a2 : ∀ w, (Op.stringOp .add (txt (jzb ++ [32] ++ decL o.toNat)) ({ data := #[32] } : ByteArray)).run Try.prog w = .ok (.string (txt (jzb ++ [32] ++ decL o.toNat ++ [32]))) w := fun w => jz2 (jzb ++ [32] ++ decL o.toNat) [32] w (by simp [jzb]; omega)
        have a3 := fun w => jz2 (jzb ++ [32] ++ decL o.toNat ++ [32]) (decL t.toNat) w (by simp [jzb]; omega)
        clear e1 e2 e3 lo lt_ bo bt_ c1 c1b c1d; generalize jzb ++ [32] ++ decL o.toNat ++ [32] ++ decL t.toNat = X3 at *; generalize jzb ++ [32] ++ decL o.toNat ++ [32] = X2 at *; generalize jzb ++ [32] ++ decL o.toNat = X1 at *; generalize decL o.toNat = Y1 at *; generalize decL t.toNat = Y2 at *; have KQ0 := Lib.hid (fun j : Nat => Calls.quiet_of_same (w := U) (n := j) ((CSO _).mono (fun _ _ h => ⟨h.1, h.2.symm⟩))); have KQ1 := Lib.hid (fun j : Nat => Calls.quiet_of_same (w := U) (n := j) ((CST _).mono (fun _ _ h => ⟨h.1, h.2.symm⟩))); clear CSO CST; go_enter Try.func142, Try.ntmps142; go_wp2_with fail; rw [HU.out]; refine CW.mono ?_; rintro e w' ⟨rfl, rfl⟩; go_wp2_with fail; refine CT.mono ?_; rintro e w' ⟨rfl, rfl⟩; go_wp2_with fail
        go_quiet (first | (go_at_call_of 143 (Value.int .i64 o); exact KQ0.out _) | (go_at_call_of 143 (Value.int .i64 t); exact KQ1.out _) | fail)
        go_wp2_with fail; go_ret; exact ⟨jz1 HX.out.symm, jqc B _⟩
      by_cases c0 : dk = 0
      · subst c0
        cases e4 : Wsh.vfB n d with
        | false =>
          have HX : Hid (txt (ddT ⟨0, o, t, n, d, zs⟩) = txt []) := Lib.hid (by rw [dd_sellN (x := ⟨0, o, t, n, d, zs⟩) rfl e4]); have CV := vf_boolN e4 U; clear e1 e2 e3 e4 lo lt_ bo bt_ CSO CST c1 c1b c1d c2; go_enter Try.func142, Try.ntmps142; go_wp2_with fail; rw [HU.out]; refine CW.mono ?_; rintro e w' ⟨rfl, rfl⟩; go_wp2_with fail; refine CT.mono ?_; rintro e w' ⟨rfl, rfl⟩; go_wp2_with fail; refine CV.mono ?_; rintro e w' ⟨rfl, C⟩; have B2 := jq2 B C; go_wp2_with fail; go_ret; exact ⟨jz1 HX.out.symm, B2⟩
        | true =>
          have HX : Hid (txt (ddT ⟨0, o, t, n, d, zs⟩) = txt (jzc ++ [32] ++ decL o.toNat ++ [32] ++ decL t.toNat ++ [32] ++ (frT n d).data.toList)) := Lib.hid (by rw [dd_sell (x := ⟨0, o, t, n, d, zs⟩) ⟨e1, e2⟩ rfl e3 e4]; simp [spT, nT]); have CV := vf_boolY e4 U; obtain ⟨y1, y2, y3, y4, _⟩ := (Wsh.vfB_iff _ _).1 e4
          have CF : ∀ W, Calls Try.prog 168 #[.agg #[.int .i64 n, .int .i64 d]] W fun e w' => e = .returned (.string (frT n d)) ∧ Below W.heap.size W w' := fun W => sshow n d W (by omega) (by omega)
          have lF : (frT n d).data.toList.length ≤ 40 := by
            rw [frT_list]
            have := dec_len 15 n.toNat (by omega)
            have := dec_len 15 d.toNat (by omega)
            simp; omega
          have eF : frT n d = txt (frT n d).data.toList := rfl; rw [eF] at CF; clear eF
          have a1 : ∀ w, (Op.stringOp .add ({ data := #[115, 101, 108, 108, 32] } : ByteArray) (txt (decL o.toNat))).run Try.prog w = .ok (.string (txt (jzc ++ [32] ++ decL o.toNat))) w := fun w => by have := jz2 (jzc ++ [32]) (decL o.toNat) w (by simp [jzc]; omega); exact this
          have a2 : ∀ w, (Op.stringOp .add (txt (jzc ++ [32] ++ decL o.toNat)) ({ data := #[32] } : ByteArray)).run Try.prog w = .ok (.string (txt (jzc ++ [32] ++ decL o.toNat ++ [32]))) w := fun w => jz2 (jzc ++ [32] ++ decL o.toNat) [32] w (by simp [jzc]; omega)
          have a3 := fun w => jz2 (jzc ++ [32] ++ decL o.toNat ++ [32]) (decL t.toNat) w (by simp [jzc]; omega)
          have a4 : ∀ w, (Op.stringOp .add (txt (jzc ++ [32] ++ decL o.toNat ++ [32] ++ decL t.toNat)) ({ data := #[32] } : ByteArray)).run Try.prog w = .ok (.string (txt (jzc ++ [32] ++ decL o.toNat ++ [32] ++ decL t.toNat ++ [32]))) w := fun w => jz2 (jzc ++ [32] ++ decL o.toNat ++ [32] ++ decL t.toNat) [32] w (by simp [jzc]; omega)
          generalize (frT n d).data.toList = F at *
          have a5 := fun w => jz2 (jzc ++ [32] ++ decL o.toNat ++ [32] ++ decL t.toNat ++ [32]) F w (by simp [jzc]; omega)
          clear e1 e2 e3 e4 lo lt_ bo bt_ y1 y2 y3 y4 lF c1 c1b c1d c2; generalize jzc ++ [32] ++ decL o.toNat ++ [32] ++ decL t.toNat ++ [32] ++ F = X5 at *; generalize jzc ++ [32] ++ decL o.toNat ++ [32] ++ decL t.toNat ++ [32] = X4 at *; generalize jzc ++ [32] ++ decL o.toNat ++ [32] ++ decL t.toNat = X3 at *; generalize jzc ++ [32] ++ decL o.toNat ++ [32] = X2 at *; generalize jzc ++ [32] ++ decL o.toNat = X1 at *; generalize decL o.toNat = Y1 at *; generalize decL t.toNat = Y2 at *; go_enter Try.func142, Try.ntmps142; go_wp2_with fail; rw [HU.out]; refine CW.mono ?_; rintro e w' ⟨rfl, rfl⟩; go_wp2_with fail; refine CT.mono ?_; rintro e w' ⟨rfl, rfl⟩; go_wp2_with fail; refine CV.mono ?_; rintro e U2 ⟨rfl, C⟩; have B2 := jq2 B C; have HSO := Lib.hid CSO; have HST := Lib.hid CST; have HSF := Lib.hid CF; clear CSO CST CF; replace q0 := ((C).cell (p := ⟨w.heap.size, 0, none⟩) hlt0).trans q0; replace q1 := ((C).cell (p := ⟨w.heap.size, 1, none⟩) hlt0).trans q1; replace q2 := ((C).cell (p := ⟨w.heap.size, 2, none⟩) hlt0).trans q2; replace q3 := ((C).cell (p := ⟨w.heap.size, 3, none⟩) hlt0).trans q3; replace q4 := ((C).cell (p := ⟨w.heap.size, 4, none⟩) hlt0).trans q4; replace q5 := ((C).cell (p := ⟨w.heap.size, 5, none⟩) hlt0).trans q5; have hlt1 : w.heap.size < U2.heap.size := Nat.lt_of_lt_of_le hlt0 C.size; clear C HI CW CT CV; go_wp2_with fail; have HMK16 := Lib.hid (fun (W : World) (hW : Below U2.heap.size U2 W) => (⟨⟨(hW.cell (p := ⟨w.heap.size, 0, none⟩) (hlt1)).trans q0, (hW.cell (p := ⟨w.heap.size, 1, none⟩) (hlt1)).trans q1, (hW.cell (p := ⟨w.heap.size, 2, none⟩) (hlt1)).trans q2, (hW.cell (p := ⟨w.heap.size, 3, none⟩) (hlt1)).trans q3, (hW.cell (p := ⟨w.heap.size, 4, none⟩) (hlt1)).trans q4, (hW.cell (p := ⟨w.heap.size, 5, none⟩) (hlt1)).trans q5⟩, hW⟩ : (W.cell? ⟨w.heap.size, 0, none⟩ = some (.int .i64 0) ∧ W.cell? ⟨w.heap.size, 1, none⟩ = some (.int .i64 o) ∧ W.cell? ⟨w.heap.size, 2, none⟩ = some (.int .i64 t) ∧ W.cell? ⟨w.heap.size, 3, none⟩ = some (.int .i64 n) ∧ W.cell? ⟨w.heap.size, 4, none⟩ = some (.int .i64 d) ∧ W.cell? ⟨w.heap.size, 5, none⟩ = some (.slice A zs.length cz)) ∧ Below U2.heap.size U2 W))
          refine wp_region_held_drew (S := (fun w' => (w'.cell? ⟨w.heap.size, 0, none⟩ = some (.int .i64 0) ∧ w'.cell? ⟨w.heap.size, 1, none⟩ = some (.int .i64 o) ∧ w'.cell? ⟨w.heap.size, 2, none⟩ = some (.int .i64 t) ∧ w'.cell? ⟨w.heap.size, 3, none⟩ = some (.int .i64 n) ∧ w'.cell? ⟨w.heap.size, 4, none⟩ = some (.int .i64 d) ∧ w'.cell? ⟨w.heap.size, 5, none⟩ = some (.slice A zs.length cz)) ∧ Below U2.heap.size U2 w')) (by kernel_rfl) ?_ (fun hHeld => ?_)
          · exact ⟨⟨q0, q1, q2, q3, q4, q5⟩, (Below.refl _ _).drew⟩
          refine tk (i := 0) (v := ?v4a) rfl ?c4a ?d_4a
          case c4a => (refine .inl ⟨by rfl, ?_⟩; intro w h; (try dsimp only at h); go_simp <;> with_reducible rfl)
          try simp only [pt]
          refine tk (i := 1) (v := ?v4b) rfl ?c4b ?d_4b
          case c4b => (refine .inl ⟨by rfl, ?_⟩; intro w h; (try dsimp only at h); go_simp <;> with_reducible rfl)
          try simp only [pt]
          refine tk (i := 5) (v := ?v4c) rfl ?c4c ?d_4c
          case c4c => (refine .inl ⟨by rfl, ?_⟩; intro w h; (try dsimp only at h); go_simp <;> with_reducible rfl)
          try simp only [pt]
          refine tk (i := 6) (v := ?v4d) rfl ?c4d ?d_4d
          case c4d => (refine .inl ⟨by rfl, ?_⟩; intro w h; (try dsimp only at h); go_simp <;> with_reducible rfl)
          try simp only [pt]
          refine tk (i := 10) (v := ?v4e) rfl ?c4e ?d_4e
          case c4e => (refine .inl ⟨by rfl, ?_⟩; intro w h; (try dsimp only at h); go_simp <;> with_reducible rfl)
          try simp only [pt]
          refine tk (i := 11) (v := ?v4f) rfl ?c4f ?d_4f
          case c4f => (refine .inl ⟨by rfl, ?_⟩; intro w h; (try dsimp only at h); go_simp <;> with_reducible rfl)
          try simp only [pt]
          refine wpAnyH_ready (rs := [2]) (by kernel_rfl) (by simp) (AllReadyH.cons (o := ?ooa23_q0) ?hia23_q0 (fun K hK => ?hka23_q0) AllReadyH.nil)
          case hia23_q0 => (simp only [List.getElem?_toArray, List.getElem?_cons_succ, List.getElem?_cons_zero]; rfl)
          case hka23_q0 =>
            (rw [if_pos (by rfl)]; go_simp; refine (HSO.out _).mono ?_; rintro e w' ⟨rfl, rfl⟩; go_wp2_with fail; refine hK.out _ _ (hHeld) (fun hHeld => ?_); clear hK K)
            try simp only [pt]
            refine tk (i := 3) (v := ?v50) rfl ?c50 ?d_50
            case c50 => (refine .inl ⟨by rfl, ?_⟩; intro w h; (try dsimp only at h); go_simp <;> with_reducible rfl)
            try simp only [pt]
            refine tk (i := 4) (v := ?v51) rfl ?c51 ?d_51
            case c51 => (refine .inl ⟨by rfl, ?_⟩; intro w h; (try dsimp only at h); go_simp <;> with_reducible rfl)
            try simp only [pt]
            refine wpAnyH_ready (rs := [7]) (by kernel_rfl) (by simp) (AllReadyH.cons (o := ?ooa26_q0) ?hia26_q0 (fun K hK => ?hka26_q0) AllReadyH.nil)
            case hia26_q0 => (simp only [List.getElem?_toArray, List.getElem?_cons_succ, List.getElem?_cons_zero]; rfl)
            case hka26_q0 =>
              (rw [if_pos (by rfl)]; go_simp; refine (HST.out _).mono ?_; rintro e w' ⟨rfl, rfl⟩; go_wp2_with fail; refine hK.out _ _ (hHeld) (fun hHeld => ?_); clear hK K)
              try simp only [pt]
              refine tk (i := 8) (v := ?v52) rfl ?c52 ?d_52
              case c52 => (refine .inl ⟨by rfl, ?_⟩; intro w h; (try dsimp only at h); go_simp <;> with_reducible rfl)
              try simp only [pt]
              refine tk (i := 9) (v := ?v53) rfl ?c53 ?d_53
              case c53 => (refine .inl ⟨by rfl, ?_⟩; intro w h; (try dsimp only at h); go_simp <;> with_reducible rfl)
              try simp only [pt]
              refine wpAnyH_ready (rs := [12]) (by kernel_rfl) (by simp) (AllReadyH.cons (o := ?ooa29_q0) ?hia29_q0 (fun K hK => ?hka29_q0) AllReadyH.nil)
              case hia29_q0 => (simp only [List.getElem?_toArray, List.getElem?_cons_succ, List.getElem?_cons_zero]; rfl)
              case hka29_q0 =>
                (rw [if_pos (by rfl)]; go_simp; refine (HSF.out _).mono ?_; rintro e w12_ ⟨rfl, C_⟩; go_wp2_with fail; refine hK.out _ _ (HMK16.out _ (jq2 hHeld.2 C_)) (fun hHeld => ?_); clear hK K)
                try simp only [pt]
                refine tk (i := 13) (v := ?v54) rfl ?c54 ?d_54
                case c54 => (refine .inl ⟨by rfl, ?_⟩; intro w h; (try dsimp only at h); go_simp <;> with_reducible rfl)
                try simp only [pt]
                refine tk (i := 14) (v := ?v55) rfl ?c55 ?d_55
                case c55 => (refine .inl ⟨by rfl, ?_⟩; intro w h; (try dsimp only at h); go_simp <;> with_reducible rfl)
                try simp only [pt]
                refine wpAnyH_done (by kernel_rfl) ?_ _; clear HMK16; have B3 := jq2 B2 hHeld.2; clear hHeld; go_wp2_with fail; go_ret; exact ⟨jz1 HX.out.symm, B3⟩
      · have HX : Hid (txt (ddT ⟨dk, o, t, n, d, zs⟩) = txt []) := Lib.hid (by rw [dd_none (x := ⟨dk, o, t, n, d, zs⟩) c0 c1 c2])
        clear e1 e2 e3 lo lt_ bo bt_ CSO CST; go_enter Try.func142, Try.ntmps142; go_wp2_with fail; rw [HU.out]; refine CW.mono ?_; rintro e w' ⟨rfl, rfl⟩; go_wp2_with fail; refine CT.mono ?_; rintro e w' ⟨rfl, rfl⟩; go_wp2_with fail; go_ret; exact ⟨jz1 HX.out.symm, B⟩
end Go.Proofs.Ytaehemmjemhgpaa
