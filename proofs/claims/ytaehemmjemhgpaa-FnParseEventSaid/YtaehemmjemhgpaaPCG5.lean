/- Contracts and facts of functions of this program, in build order. Conditions: those stated in each. -/
import Derived.Test.YtaehemmjemhgpaaPCSell
import Derived.Test.YtaehemmjemhgpaaPCG1
import Derived.Test.YtaehemmjemhgpaaPCG4
import Derived.Test.YtaehemmjemhgpaaPCEvV
import Derived.Test.YtaehemmjemhgpaaPCG2
import Derived.Deep.RegionHeld3
import Derived.Deep.DeepCutAuto
set_option maxRecDepth 100000
set_option maxHeartbeats 16000000
namespace Go.Proofs.Ytaehemmjemhgpaa
open Go.RowKit
set_option linter.unusedSimpArgs false
set_option linter.unusedVariables false

def joinB (hs : List Hd) (fr tt : Int) : Bool := selB hs fr tt (shV hs fr).1 (shV hs fr).2
def joinL' (hs : List Hd) (fr tt : Int) : Led := selL hs fr tt (shV hs fr).1 (shV hs fr).2
def gvTo (p : Rat) (L : Led) (zs : List Int) (k : Nat) : Led := giveL p L (zs.take k)
def gvOk (p : Rat) (L : Led) (zs : List Int) (k : Nat) : Bool := frB (jq6 (gvTo p L zs k) (zs.getD k 0) + p)
def gvAll (p : Rat) (L : Led) (zs : List Int) : Bool := (List.range zs.length).all (gvOk p L zs)
theorem gv_succ (p : Rat) (L : Led) {zs : List Int} {k : Nat} (h : k < zs.length) : gvTo p L zs (k + 1) = setL (gvTo p L zs k) (zs.getD k 0) (jq6 (gvTo p L zs k) (zs.getD k 0) + p) := by
 unfold gvTo; rw [take_snocD zs h 0, give_snoc]
theorem gv_end (p : Rat) (L : Led) (zs : List Int) : gvTo p L zs zs.length = giveL p L zs := by unfold gvTo; rw [List.take_of_length_le (Nat.le_refl _)]
theorem gv_fr {p : Rat} {L : Led} (h : ∀ x ∈ L, frB x.2 = true) {zs : List Int} : ∀ k, k ≤ zs.length → (∀ j, j < k → gvOk p L zs j = true) → ∀ x ∈ gvTo p L zs k, frB x.2 = true := by
  intro k
  induction k with
  | zero => intro _ _; exact h
  | succ k ih =>
    intro hk hj; rw [gv_succ p L (by omega)]; exact fr_set (ih (by omega) (fun j hj' => hj j (by omega))) _ (hj k (by omega))
theorem gv_len {p : Rat} {L : Led} {zs : List Int} : ∀ k, k ≤ zs.length → (gvTo p L zs k).length ≤ L.length + k := by
  intro k
  induction k with
  | zero => intro _; exact Nat.le_refl _
  | succ k ih =>
    intro hk; rw [gv_succ p L (by omega)]; have a := ih (by omega); have b := set_len (L := gvTo p L zs k) (zs.getD k 0) (jq6 (gvTo p L zs k) (zs.getD k 0) + p)
    omega
def inhQ (hs : List Hd) (owner : Int) (zs : List Int) : Rat := Rat.divInt (jq6 (jqa hs) owner).num ((jq6 (jqa hs) owner).den * (zs.length : Int))
def inhL (hs : List Hd) (owner : Int) (zs : List Int) : Led := giveL (inhQ hs owner zs) (setL (jqa hs) owner 0) zs
def inhB (hs : List Hd) (owner : Int) (zs : List Int) : Bool :=
 vlR hs && decide (jq6 (jqa hs) owner ≠ 0) && heirsB zs owner && frB (inhQ hs owner zs) && gvAll (inhQ hs owner zs) (setL (jqa hs) owner 0) zs && vlB (inhL hs owner zs)
theorem inh_no {hs : List Hd} {owner : Int} {zs : List Int} (h : vlR hs = false ∨ jq6 (jqa hs) owner = 0 ∨ heirsB zs owner = false ∨ frB (inhQ hs owner zs) = false ∨ gvAll (inhQ hs owner zs) (setL (jqa hs) owner 0) zs = false ∨ vlB (inhL hs owner zs) = false) : inhB hs owner zs = false := by
 unfold inhB
 rcases h with h | h | h | h | h | h
 ·rw [h]; rfl
 ·rw [h]; simp
 all_goals (rw [h]; simp)
theorem inh_yes {hs : List Hd} {owner : Int} {zs : List Int} (h1 : vlR hs = true) (h2 : jq6 (jqa hs) owner ≠ 0) (h3 : heirsB zs owner = true) (h4 : frB (inhQ hs owner zs) = true) (h5 : gvAll (inhQ hs owner zs) (setL (jqa hs) owner 0) zs = true) (h6 : vlB (inhL hs owner zs) = true) : inhB hs owner zs = true := by
 unfold inhB; rw [h1, h3, h4, h5, h6, decide_eq_true h2]; rfl
theorem inh_red {hs : List Hd} (owner : Int) {zs : List Int} (h : 1 ≤ zs.length) :
  Wsh.redB (jq6 (jqa hs) owner).num (((jq6 (jqa hs) owner).den : Int) * (zs.length : Int)) = frB (inhQ hs owner zs) ∧ Wsh.rn (jq6 (jqa hs) owner).num (((jq6 (jqa hs) owner).den : Int) * (zs.length : Int)) = (inhQ hs owner zs).num ∧ Wsh.rd (jq6 (jqa hs) owner).num (((jq6 (jqa hs) owner).den : Int) * (zs.length : Int)) = ((inhQ hs owner zs).den : Int) := by
 have hd : 0 < ((jq6 (jqa hs) owner).den : Int) * (zs.length : Int) := Int.mul_pos (by have := den_pos (jq6 (jqa hs) owner); omega) (by omega); exact ⟨redB_q hd, rn_q hd, rd_q hd⟩
theorem sshowE (A : Option Addr) (cz : Nat) (x : Ev) (w : World) (h : jqf w A x.dd.zs) :
    Calls Try.prog 90 #[.agg #[.int .i64 x.k, .int .i64 x.dd.k, .int .i64 x.dd.o, .int .i64 x.dd.t, .int .i64 x.dd.n, .int .i64 x.dd.d, .slice A x.dd.zs.length cz, .int .i64 x.at_, .int .i64 x.nu]] w fun e w' => e = .returned (.string (fmE x)) ∧ Below w.heap.size w w' := by
  obtain ⟨k, ⟨dk, o, t, n, d, zs⟩, at_, nu⟩ := x; dsimp only at h ⊢; have B := (Below.refl w.heap.size w).alloc (Nat.le_refl _) (.cells #[.int .i64 k, .int .i64 dk, .int .i64 o, .int .i64 t, .int .i64 n, .int .i64 d, .slice A zs.length cz, .int .i64 at_, .int .i64 nu] 63); have K := Blk.new w 63 #[.int .i64 k, .int .i64 dk, .int .i64 o, .int .i64 t, .int .i64 n, .int .i64 d, .slice A zs.length cz, .int .i64 at_, .int .i64 nu]; have hI := jq9 h B; clear h; generalize hU : w.alloc (.cells #[.int .i64 k, .int .i64 dk, .int .i64 o, .int .i64 t, .int .i64 n, .int .i64 d, .slice A zs.length cz, .int .i64 at_, .int .i64 nu] 63) = U at B K hI; obtain ⟨q0, q1, q2, q3, q4, q5, q6, q7, q8⟩ := jq4 K; have HU := Lib.hid hU; have HI := Lib.hid hI; clear hU hI K; have HOUT := Lib.hid (ev_out (e := ⟨k, ⟨dk, o, t, n, d, zs⟩, at_, nu⟩)); dsimp only at HOUT; have CA := ssml3 at_ U; have CN := ssml3 nu U
  cases e1 : smlB at_ with
  | false =>
    have HX : Hid (fmE ⟨k, ⟨dk, o, t, n, d, zs⟩, at_, nu⟩ = txt []) := Lib.hid (HOUT.out (by rw [e1]; simp)); rw [e1] at CA; clear HOUT e1 CN; go_enter Try.func90, Try.ntmps90; go_wp2_with fail; rw [HU.out]; refine CA.mono ?_; rintro e w' ⟨rfl, rfl⟩; go_wp2_with fail; go_ret; exact ⟨jz1 HX.out.symm, B⟩
  | true =>
    rw [e1] at CA
    cases e2 : smlB nu with
    | false =>
      have HX : Hid (fmE ⟨k, ⟨dk, o, t, n, d, zs⟩, at_, nu⟩ = txt []) := Lib.hid (HOUT.out (by rw [e2]; simp)); rw [e2] at CN; clear HOUT e1 e2; go_enter Try.func90, Try.ntmps90; go_wp2_with fail; rw [HU.out]; refine CA.mono ?_; rintro e w' ⟨rfl, rfl⟩; go_wp2_with fail; refine CN.mono ?_; rintro e w' ⟨rfl, rfl⟩; go_wp2_with fail; go_ret; exact ⟨jz1 HX.out.symm, B⟩
    | true =>
      rw [e2] at CN; clear HOUT; have ba := sml_bd e1; have bn := sml_bd e2; have la := nT_len (n := at_) ba.1 (by omega); have ln := nT_len (n := nu) bn.1 (by omega); have HSA := Lib.hid (fun W => snumI at_ W ba.1 (by omega)); have HSN := Lib.hid (fun W => snumI nu W bn.1 (by omega)); have HS := Lib.hid (And.intro e1 e2); clear e1 e2 ba bn
      by_cases c0 : k = 0
      · subst c0
        have HX : Hid (fmE ⟨0, ⟨dk, o, t, n, d, zs⟩, at_, nu⟩ = txt (ddT ⟨dk, o, t, n, d, zs⟩)) := Lib.hid (ev_deed (e := ⟨0, ⟨dk, o, t, n, d, zs⟩, at_, nu⟩) HS.out rfl); have CD := sshowD A cz ⟨dk, o, t, n, d, zs⟩ U HI.out; dsimp only at CD; clear HSA HSN la ln; go_enter Try.func90, Try.ntmps90; go_wp2_with fail; rw [HU.out]; refine CA.mono ?_; rintro e w' ⟨rfl, rfl⟩; go_wp2_with fail; refine CN.mono ?_; rintro e w' ⟨rfl, rfl⟩; go_wp2_with fail; refine CD.mono ?_; rintro e w' ⟨rfl, C⟩; have B2 := jq2 B C; go_wp2_with fail; go_ret; exact ⟨jz1 HX.out.symm, B2⟩
      by_cases c1 : k = 1
      · subst c1
        have HX : Hid (fmE ⟨1, ⟨dk, o, t, n, d, zs⟩, at_, nu⟩ = txt ((jz0 ++ [32]) ++ decL nu.toNat)) := Lib.hid (by rw [ev_turns (e := ⟨1, ⟨dk, o, t, n, d, zs⟩, at_, nu⟩) HS.out rfl] <;> simp [spT, nT])
        have a1 : ∀ w, (Op.stringOp .add ({ data := #[116, 117, 114, 110, 115, 32] } : ByteArray) (txt (decL nu.toNat))).run Try.prog w = .ok (.string (txt ((jz0 ++ [32]) ++ decL nu.toNat))) w := fun w => by have := jz2 (jz0 ++ [32]) (decL nu.toNat) w (by simp [jz0]; unfold nT at ln; omega); exact this
        have CQ := HSN.out U; clear HSA HSN la ln HS; generalize decL nu.toNat = Y at *; go_enter Try.func90, Try.ntmps90; go_wp2_with fail; rw [HU.out]; refine CA.mono ?_; rintro e w' ⟨rfl, rfl⟩; go_wp2_with fail; refine CN.mono ?_; rintro e w' ⟨rfl, rfl⟩; go_wp2_with fail; refine CQ.mono ?_; rintro e w' ⟨rfl, rfl⟩; go_wp2_with fail; go_ret; exact ⟨jz1 HX.out.symm, B⟩
      by_cases c2 : k = 2
      · subst c2
        have HX : Hid (fmE ⟨2, ⟨dk, o, t, n, d, zs⟩, at_, nu⟩ = txt ((jz4 ++ [32]) ++ decL at_.toNat ++ [32] ++ decL nu.toNat)) := Lib.hid (by rw [ev_swap (e := ⟨2, ⟨dk, o, t, n, d, zs⟩, at_, nu⟩) HS.out rfl] <;> simp [spT, nT])
        have a1 : ∀ w, (Op.stringOp .add ({ data := #[115, 119, 97, 112, 32] } : ByteArray) (txt (decL at_.toNat))).run Try.prog w = .ok (.string (txt ((jz4 ++ [32]) ++ decL at_.toNat))) w := fun w => by have := jz2 (jz4 ++ [32]) (decL at_.toNat) w (by simp [jz4]; unfold nT at la ln; omega); exact this
        have a2 : ∀ w, (Op.stringOp .add (txt ((jz4 ++ [32]) ++ decL at_.toNat)) ({ data := #[32] } : ByteArray)).run Try.prog w = .ok (.string (txt ((jz4 ++ [32]) ++ decL at_.toNat ++ [32]))) w := fun w => jz2 ((jz4 ++ [32]) ++ decL at_.toNat) [32] w (by simp [jz4]; unfold nT at la ln; omega)
        have a3 := fun w => jz2 ((jz4 ++ [32]) ++ decL at_.toNat ++ [32]) (decL nu.toNat) w (by simp [jz4]; unfold nT at la ln; omega)
        clear la ln HS; generalize (jz4 ++ [32]) ++ decL at_.toNat ++ [32] ++ decL nu.toNat = X3 at *; generalize (jz4 ++ [32]) ++ decL at_.toNat ++ [32] = X2 at *; generalize (jz4 ++ [32]) ++ decL at_.toNat = X1 at *; have KQ0 := Lib.hid (fun j : Nat => Calls.quiet_of_same (w := U) (n := j) ((HSA.out _).mono (fun _ _ h => ⟨h.1, h.2.symm⟩))); have KQ1 := Lib.hid (fun j : Nat => Calls.quiet_of_same (w := U) (n := j) ((HSN.out _).mono (fun _ _ h => ⟨h.1, h.2.symm⟩))); clear HSA HSN; generalize decL at_.toNat = Y1 at *; generalize decL nu.toNat = Y2 at *; go_enter Try.func90, Try.ntmps90; go_wp2_with fail; rw [HU.out]; refine CA.mono ?_; rintro e w' ⟨rfl, rfl⟩; go_wp2_with fail; refine CN.mono ?_; rintro e w' ⟨rfl, rfl⟩; go_wp2_with fail
        go_quiet (first | (go_at_call_of 143 (Value.int .i64 at_); exact KQ0.out _) | (go_at_call_of 143 (Value.int .i64 nu); exact KQ1.out _) | fail)
        go_wp2_with fail; go_ret; exact ⟨jz1 HX.out.symm, jqc B _⟩
      by_cases c3 : k = 3
      · subst c3
        have HX : Hid (fmE ⟨3, ⟨dk, o, t, n, d, zs⟩, at_, nu⟩ = txt ((jz5 ++ [32]) ++ decL at_.toNat ++ [32] ++ decL nu.toNat)) := Lib.hid (by rw [ev_gate (e := ⟨3, ⟨dk, o, t, n, d, zs⟩, at_, nu⟩) HS.out rfl] <;> simp [spT, nT])
        have a1 : ∀ w, (Op.stringOp .add ({ data := #[103, 97, 116, 101, 32] } : ByteArray) (txt (decL at_.toNat))).run Try.prog w = .ok (.string (txt ((jz5 ++ [32]) ++ decL at_.toNat))) w := fun w => by have := jz2 (jz5 ++ [32]) (decL at_.toNat) w (by simp [jz5]; unfold nT at la ln; omega); exact this
        have a2 : ∀ w, (Op.stringOp .add (txt ((jz5 ++ [32]) ++ decL at_.toNat)) ({ data := #[32] } : ByteArray)).run Try.prog w = .ok (.string (txt ((jz5 ++ [32]) ++ decL at_.toNat ++ [32]))) w := fun w => jz2 ((jz5 ++ [32]) ++ decL at_.toNat) [32] w (by simp [jz5]; unfold nT at la ln; omega)
        have a3 := fun w => jz2 ((jz5 ++ [32]) ++ decL at_.toNat ++ [32]) (decL nu.toNat) w (by simp [jz5]; unfold nT at la ln; omega)
        clear la ln HS; generalize (jz5 ++ [32]) ++ decL at_.toNat ++ [32] ++ decL nu.toNat = X3 at *; generalize (jz5 ++ [32]) ++ decL at_.toNat ++ [32] = X2 at *; generalize (jz5 ++ [32]) ++ decL at_.toNat = X1 at *; have KQ0 := Lib.hid (fun j : Nat => Calls.quiet_of_same (w := U) (n := j) ((HSA.out _).mono (fun _ _ h => ⟨h.1, h.2.symm⟩))); have KQ1 := Lib.hid (fun j : Nat => Calls.quiet_of_same (w := U) (n := j) ((HSN.out _).mono (fun _ _ h => ⟨h.1, h.2.symm⟩))); clear HSA HSN; generalize decL at_.toNat = Y1 at *; generalize decL nu.toNat = Y2 at *; go_enter Try.func90, Try.ntmps90; go_wp2_with fail; rw [HU.out]; refine CA.mono ?_; rintro e w' ⟨rfl, rfl⟩; go_wp2_with fail; refine CN.mono ?_; rintro e w' ⟨rfl, rfl⟩; go_wp2_with fail
        go_quiet (first | (go_at_call_of 143 (Value.int .i64 at_); exact KQ0.out _) | (go_at_call_of 143 (Value.int .i64 nu); exact KQ1.out _) | fail)
        go_wp2_with fail; go_ret; exact ⟨jz1 HX.out.symm, jqc B _⟩
      by_cases c4 : k = 4
      · subst c4
        have HX : Hid (fmE ⟨4, ⟨dk, o, t, n, d, zs⟩, at_, nu⟩ = txt ((kDig ++ [32]) ++ decL at_.toNat ++ [32] ++ decL nu.toNat)) := Lib.hid (by rw [ev_dig (e := ⟨4, ⟨dk, o, t, n, d, zs⟩, at_, nu⟩) HS.out rfl] <;> simp [spT, nT])
        have a1 : ∀ w, (Op.stringOp .add ({ data := #[100, 105, 103, 32] } : ByteArray) (txt (decL at_.toNat))).run Try.prog w = .ok (.string (txt ((kDig ++ [32]) ++ decL at_.toNat))) w := fun w => by have := jz2 (kDig ++ [32]) (decL at_.toNat) w (by simp [kDig]; unfold nT at la ln; omega); exact this
        have a2 : ∀ w, (Op.stringOp .add (txt ((kDig ++ [32]) ++ decL at_.toNat)) ({ data := #[32] } : ByteArray)).run Try.prog w = .ok (.string (txt ((kDig ++ [32]) ++ decL at_.toNat ++ [32]))) w := fun w => jz2 ((kDig ++ [32]) ++ decL at_.toNat) [32] w (by simp [kDig]; unfold nT at la ln; omega)
        have a3 := fun w => jz2 ((kDig ++ [32]) ++ decL at_.toNat ++ [32]) (decL nu.toNat) w (by simp [kDig]; unfold nT at la ln; omega)
        clear la ln HS; generalize (kDig ++ [32]) ++ decL at_.toNat ++ [32] ++ decL nu.toNat = X3 at *; generalize (kDig ++ [32]) ++ decL at_.toNat ++ [32] = X2 at *; generalize (kDig ++ [32]) ++ decL at_.toNat = X1 at *; have KQ0 := Lib.hid (fun j : Nat => Calls.quiet_of_same (w := U) (n := j) ((HSA.out _).mono (fun _ _ h => ⟨h.1, h.2.symm⟩))); have KQ1 := Lib.hid (fun j : Nat => Calls.quiet_of_same (w := U) (n := j) ((HSN.out _).mono (fun _ _ h => ⟨h.1, h.2.symm⟩))); clear HSA HSN; generalize decL at_.toNat = Y1 at *; generalize decL nu.toNat = Y2 at *; go_enter Try.func90, Try.ntmps90; go_wp2_with fail; rw [HU.out]; refine CA.mono ?_; rintro e w' ⟨rfl, rfl⟩; go_wp2_with fail; refine CN.mono ?_; rintro e w' ⟨rfl, rfl⟩; go_wp2_with fail
        go_quiet (first | (go_at_call_of 143 (Value.int .i64 at_); exact KQ0.out _) | (go_at_call_of 143 (Value.int .i64 nu); exact KQ1.out _) | fail)
        go_wp2_with fail; go_ret; exact ⟨jz1 HX.out.symm, jqc B _⟩
      by_cases c5 : k = 5
      · subst c5
        have HX : Hid (fmE ⟨5, ⟨dk, o, t, n, d, zs⟩, at_, nu⟩ = txt ((jzg ++ [32]) ++ decL nu.toNat)) := Lib.hid (by rw [ev_hour (e := ⟨5, ⟨dk, o, t, n, d, zs⟩, at_, nu⟩) HS.out rfl] <;> simp [spT, nT])
        have a1 : ∀ w, (Op.stringOp .add ({ data := #[104, 111, 117, 114, 32] } : ByteArray) (txt (decL nu.toNat))).run Try.prog w = .ok (.string (txt ((jzg ++ [32]) ++ decL nu.toNat))) w := fun w => by have := jz2 (jzg ++ [32]) (decL nu.toNat) w (by simp [jzg]; unfold nT at ln; omega); exact this
        have CQ := HSN.out U; clear HSA HSN la ln HS; generalize decL nu.toNat = Y at *; go_enter Try.func90, Try.ntmps90; go_wp2_with fail; rw [HU.out]; refine CA.mono ?_; rintro e w' ⟨rfl, rfl⟩; go_wp2_with fail; refine CN.mono ?_; rintro e w' ⟨rfl, rfl⟩; go_wp2_with fail; refine CQ.mono ?_; rintro e w' ⟨rfl, rfl⟩; go_wp2_with fail; go_ret; exact ⟨jz1 HX.out.symm, B⟩
      have HX : Hid (fmE ⟨k, ⟨dk, o, t, n, d, zs⟩, at_, nu⟩ = txt []) := Lib.hid (ev_none (e := ⟨k, ⟨dk, o, t, n, d, zs⟩, at_, nu⟩) c0 c1 c2 c3 c4 c5); clear HSA HSN la ln HS; go_enter Try.func90, Try.ntmps90; go_wp2_with fail; rw [HU.out]; refine CA.mono ?_; rintro e w' ⟨rfl, rfl⟩; go_wp2_with fail; refine CN.mono ?_; rintro e w' ⟨rfl, rfl⟩; go_wp2_with fail; go_ret; exact ⟨jz1 HX.out.symm, B⟩
theorem sFmtE (A : Option Addr) (cz : Nat) (x : Ev) (w : World) (h : jqf w A x.dd.zs) :
  Calls Try.prog 34 #[.agg #[.int .i64 x.k, .int .i64 x.dd.k, .int .i64 x.dd.o, .int .i64 x.dd.t, .int .i64 x.dd.n, .int .i64 x.dd.d, .slice A x.dd.zs.length cz, .int .i64 x.at_, .int .i64 x.nu]] w fun e w' => e = .returned (.string (fmE x)) ∧ Below w.heap.size w w' := by
 have B := (Below.refl w.heap.size w).alloc (Nat.le_refl _) (.cells #[.int .i64 x.k, .int .i64 x.dd.k, .int .i64 x.dd.o, .int .i64 x.dd.t, .int .i64 x.dd.n, .int .i64 x.dd.d, .slice A x.dd.zs.length cz, .int .i64 x.at_, .int .i64 x.nu] 63); have CC := sshowE A cz x _ (jq9 h B); clear h; go_enter Try.func34, Try.ntmps34; go_wp2_with fail; refine CC.mono ?_; rintro e w' ⟨rfl, C⟩; replace B := jq2 B C; go_wp2_with fail; go_ret; exact ⟨rfl, B⟩
theorem nTo {n : Int} (h : ownB n = true) : (nT n).length ≤ 40 := by have := own_bd h; have := nT_len (n := n) this.1 (by omega); omega
theorem nTs {n : Int} (h : smlB n = true) : (nT n).length ≤ 40 := by have := sml_bd h; have := nT_len (n := n) this.1 (by omega); omega
theorem frT40 {n d : Int} (h : Wsh.vfB n d = true) : (frT n d).data.toList.length ≤ 40 := by
 obtain ⟨y1, y2, y3, y4, _⟩ := (Wsh.vfB_iff _ _).1 h; rw [frT_list]
 have := dec_len 15 n.toNat (by omega)
 have := dec_len 15 d.toNat (by omega)
 simp; omega
theorem words_40 (e : Ev) : ∀ a ∈ evW e, a.length ≤ 40 := by
 intro a ha
 by_cases h : evW e = []
 ·rw [h] at ha; cases ha
 obtain ⟨hk, s1, s2⟩ := ev_kinds e h
 have w1 : evW e = if e.k = 0 then deedW e.dd else evW e := by
  by_cases c : e.k = 0
  ·rw [if_pos c]; unfold evW; rw [if_pos ⟨s1, s2⟩, if_pos c]
  ·rw [if_neg c]
 by_cases c : e.k = 0
 ·rw [if_pos c] at w1
  rw [w1] at ha h; unfold deedW at ha
  by_cases q : ownB e.dd.o = true ∧ e.dd.zs.length ≤ 12
  ·rw [if_pos q] at ha
   by_cases d1 : e.dd.k = 1
   ·rw [if_pos d1] at ha
    by_cases z : e.dd.zs.all ownB = true
    ·rw [if_pos z] at ha
     simp only [List.mem_cons, List.mem_map] at ha
     rcases ha with rfl | rfl | ⟨y, hy, rfl⟩
     ·decide
     ·exact nTo q.1
     ·exact nTo (List.all_eq_true.1 z y hy)
    ·rw [if_neg z] at ha; cases ha
   ·rw [if_neg d1] at ha
    by_cases tt : ownB e.dd.t = true
    ·rw [if_pos tt] at ha
     by_cases d2 : e.dd.k = 2
     ·rw [if_pos d2] at ha
      simp only [List.mem_cons, List.not_mem_nil, or_false] at ha
      rcases ha with rfl | rfl | rfl
      ·decide
      ·exact nTo q.1
      ·exact nTo tt
     ·rw [if_neg d2] at ha
      by_cases d0 : e.dd.k = 0 ∧ Wsh.vfB e.dd.n e.dd.d = true
      ·rw [if_pos d0] at ha
       simp only [List.mem_cons, List.not_mem_nil, or_false] at ha
       rcases ha with rfl | rfl | rfl | rfl
       ·decide
       ·exact nTo q.1
       ·exact nTo tt
       ·exact frT40 d0.2
      ·rw [if_neg d0] at ha; cases ha
    ·rw [if_neg tt] at ha; cases ha
  ·rw [if_neg q] at ha; cases ha
 ·clear w1
  unfold evW at ha; rw [if_pos ⟨s1, s2⟩, if_neg c] at ha
  repeat' split at ha
  all_goals simp only [List.mem_cons, List.not_mem_nil, or_false] at ha
  all_goals first
   | (rcases ha with rfl | rfl | rfl <;> first | exact nTs s1 | exact nTs s2 | decide)
   | (rcases ha with rfl | rfl <;> first | exact nTs s1 | exact nTs s2 | decide)
theorem joinL_len (c : UInt8) (m : Nat) : ∀ P : List (List UInt8), (∀ a ∈ P, a.length ≤ m) → (joinL c P).length ≤ P.length * (m + 1) := by
  intro P
  induction P with
  | nil => intro _; simp [joinL]
  | cons x t ih =>
    intro h; have hx := h x (by simp); have i := ih (fun a ha => h a (by simp [ha]))
    by_cases ht : t = []
    · subst ht; show x.length ≤ 1 * (m + 1); omega
    · rw [jx8 c x ht, List.length_append, List.length_cons, List.length_cons, Nat.add_mul]; omega
theorem evT_len (e : Ev) : (evT e).length ≤ 600 := by
 have a := joinL_len 32 40 (evW e) (words_40 e); have b := words_len e; have c : (evW e).length * 41 ≤ 14 * 41 := Nat.mul_le_mul_right 41 b; unfold evT
 omega
theorem fm_empty {x : Ev} (h : evW x = []) : (fmE x).toList.isEmpty = true := by
 have : evT x = [] := (evT_nil x).2 h; unfold fmE; rw [this, ByteArray.toList_eq]; rfl
theorem fm_full {x : Ev} (h : evW x ≠ []) : (fmE x).toList.isEmpty = false := by
 rw [ByteArray.toList_eq, List.isEmpty_eq_false_iff]; intro c; exact h ((evT_nil x).1 c)
end Go.Proofs.Ytaehemmjemhgpaa
