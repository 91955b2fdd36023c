/- Texts parsed by the model. Condition: texts of at most 1048576 bytes. -/
import Derived.Test.YtaehemmjemhgpaaPCG6
import Derived.Test.YtaehemmjemhgpaaPCG5
import Derived.Deep.RegionHeld3
import Derived.Deep.RegionWith
import Derived.Deep.QuietTactic
import Derived.BigQuiet
import Derived.RegionTactic
set_option maxRecDepth 100000
set_option maxHeartbeats 16000000
namespace Go.Proofs.Ytaehemmjemhgpaa
open Go.RowKit
set_option linter.unusedSimpArgs false
set_option linter.unusedVariables false

def OutPM (w : World) (o : Option Ev) (e : Ending) (w' : World) : Prop := ∃ (A : Option Addr) (cz : Nat) (x : Ev), x = o.getD ev0 ∧ e = .returned (.tuple #[.agg #[.int .i64 x.k, .int .i64 x.dd.k, .int .i64 x.dd.o, .int .i64 x.dd.t, .int .i64 x.dd.n, .int .i64 x.dd.d, .slice A x.dd.zs.length cz, .int .i64 x.at_, .int .i64 x.nu], .bool o.isSome]) ∧ jqf w' A x.dd.zs ∧ (∀ g o s, A = some ⟨g, o, s⟩ → w.heap.size ≤ g) ∧ x.dd.zs.length ≤ cz ∧ x.dd.zs.length ≤ 1048576 ∧ Below w.heap.size w w'
theorem outPM_no {w w' : World} (h : Below w.heap.size w w') : OutPM w none (.returned (.tuple #[.agg #[.int .i64 0, .int .i64 0, .int .i64 0, .int .i64 0, .int .i64 0, .int .i64 0, .slice none 0 0, .int .i64 0, .int .i64 0], .bool false])) w' := ⟨none, 0, ev0, rfl, rfl, .inl rfl, fun _ _ _ h => (by cases h), Nat.le_refl _, by decide, h⟩
theorem parM_none {s : ByteArray} (h : rdM (cutS 32 s) = none) : parM s = none := by unfold parM; rw [h]
theorem parM_zero {s : ByteArray} (h : s.size = 0) : parM s = none := by
 unfold parM
 cases rdM (cutS 32 s) with
 | none => rfl
 | some x => dsimp only; rw [if_neg (fun c => c.1 h)]
theorem parM_bad {s : ByteArray} {x : Ev} (h : rdM (cutS 32 s) = some x) (hx : fmE x ≠ s) : parM s = none := by
 unfold parM; rw [h]; dsimp only; rw [if_neg (fun c => hx c.2)]
theorem parM_good {s : ByteArray} {x : Ev} (h : rdM (cutS 32 s) = some x) (h0 : s.size ≠ 0) (hx : fmE x = s) : parM s = some x := by
 unfold parM; rw [h]; dsimp only; rw [if_pos ⟨h0, hx⟩]
theorem cut_len (c : Int) (s : ByteArray) : (cutS c s).length ≤ s.size + 1 := by
 have := (cutTo_bd c s s.size).2; unfold cutS; simp; omega
theorem cut_size {c : Int} {s : ByteArray} : ∀ l ∈ cutS c s, l.size ≤ s.size := by
  have key : ∀ k, ∀ l ∈ (jj0 c s k).1, l.size ≤ s.size := by
    intro k
    induction k with
    | zero => intro l hl; cases hl
    | succ k ih =>
      intro l hl
      by_cases h : bt s k = c
      · rw [cutTo_hit h] at hl
        rcases List.mem_append.1 hl with hl | hl
        · exact ih l hl
        · simp only [List.mem_singleton] at hl; subst hl; exact ext_size _ _ _
      · rw [cutTo_miss h] at hl; exact ih l hl
  intro l hl; unfold cutS at hl
  rcases List.mem_append.1 hl with hl | hl
  · exact key _ l hl
  · simp only [List.mem_singleton] at hl; subst hl; exact ext_size _ _ _
theorem cut_ne (c : Int) (s : ByteArray) : cutS c s ≠ [] := by unfold cutS; simp
theorem own_cap {w : World} {base : Nat} {g : Nat} {n cp : Nat} {L : List ByteArray} (h : StrO w base (.slice (some ⟨g, 0, none⟩) n cp) L) : L.length ≤ cp := by
 rcases h.2 with ⟨e, _⟩ | ⟨g', k, cs, e, _, _, hk, _⟩
 ·cases e
 ·injection e with _ _ e3; omega
theorem spar (s : ByteArray) (w : World) (h : s.size ≤ 1048576) :
    Calls Try.prog 96 #[.string s] w (OutPM w (parM s)) := by
  have B := (Below.refl w.heap.size w).alloc (Nat.le_refl _) (.cells #[.int .i64 0, .int .i64 0, .int .i64 0, .int .i64 0, .int .i64 0, .int .i64 0, .slice none 0 0, .int .i64 0, .int .i64 0] 63); have K := Blk.new w 63 #[.int .i64 0, .int .i64 0, .int .i64 0, .int .i64 0, .int .i64 0, .int .i64 0, .slice none 0 0, .int .i64 0, .int .i64 0]
  obtain ⟨U, hU⟩ : ∃ U, U = w.alloc (.cells #[.int .i64 0, .int .i64 0, .int .i64 0, .int .i64 0, .int .i64 0, .int .i64 0, .slice none 0 0, .int .i64 0, .int .i64 0] 63) := ⟨_, rfl⟩
  rw [← hU] at B K; have HU := Lib.hid hU; clear hU; have HW := Lib.hid (ssplit s 32 U (by omega)); have hL := cut_ne 32 s; have hl1 := cut_len 32 s; have hlz := cut_size (c := 32) (s := s)
  obtain ⟨L, hLL⟩ : ∃ L, cutS 32 s = L := ⟨_, rfl⟩
  have HLL := Lib.hid hLL; have hwU := K.lt; rw [hLL] at hL hl1 hlz; clear hLL; go_enter Try.func96, Try.ntmps96
  go_wp2_with (first | (show wpList _ _ _ ({ dst := some _, op := _, type := _, pos := _, after := _, guard := _ } :: _) _ (World.alloc _ _); rw [← HU.out]))
  refine HW.out.mono ?_; rintro e u1 ⟨v, rfl, O, C⟩; rw [HLL.out] at O; obtain ⟨g, cp, rfl, lg, I⟩ := StrO.form O hL; have hcp := own_cap O; have CE := sreadE _ cp L u1 I hL (fun l hl => Nat.le_trans (hlz l hl) (by omega)) (by omega) hcp; replace K := K.next C; replace B := jq2 B C; have hu1 : w.heap.size < u1.heap.size := K.lt; have hb0 := C.size; clear C O I hL HW lg hcp hlz hl1; go_wp2_with fail; refine CE.mono ?_; rintro e u2 ⟨A, cz, x, hor, rfl, I, hA, hcz, hxl, C⟩; replace K := K.next C; replace B := jq2 B C; have hb1 := C.size; clear C CE
  obtain ⟨T, hT⟩ : ∃ T, fmE x = T := ⟨_, rfl⟩
  have CF := Lib.hid (fun W (hW : Below u2.heap.size u2 W) => sshowE A cz x W (jq9 I hW)); rw [hT] at CF; have HT := Lib.hid hT; obtain ⟨k, ⟨dk, o, t, n, d, zs⟩, at_, nu⟩ := x; dsimp only at I CF hcz hxl; clear hT; have ltu : w.heap.size < u2.heap.size := K.lt; have I2 : jqf (u2.alloc (.cells #[.int .i64 k, .int .i64 dk, .int .i64 o, .int .i64 t, .int .i64 n, .int .i64 d, .slice A zs.length cz, .int .i64 at_, .int .i64 nu] 63)) A zs := jq9 I ((Below.refl _ _).alloc (Nat.le_refl _) _); have K2 := Blk.new u2 63 #[.int .i64 k, .int .i64 dk, .int .i64 o, .int .i64 t, .int .i64 n, .int .i64 d, .slice A zs.length cz, .int .i64 at_, .int .i64 nu]; have D2 : Below u2.heap.size u2 (u2.alloc (.cells #[.int .i64 k, .int .i64 dk, .int .i64 o, .int .i64 t, .int .i64 n, .int .i64 d, .slice A zs.length cz, .int .i64 at_, .int .i64 nu] 63)) := (Below.refl _ _).alloc (Nat.le_refl _) _; replace K := K.alloc (.cells #[.int .i64 k, .int .i64 dk, .int .i64 o, .int .i64 t, .int .i64 n, .int .i64 d, .slice A zs.length cz, .int .i64 at_, .int .i64 nu] 63); replace B := B.alloc B.size (.cells #[.int .i64 k, .int .i64 dk, .int .i64 o, .int .i64 t, .int .i64 n, .int .i64 d, .slice A zs.length cz, .int .i64 at_, .int .i64 nu] 63)
  obtain ⟨U3, hU3⟩ : ∃ U3, U3 = u2.alloc (.cells #[.int .i64 k, .int .i64 dk, .int .i64 o, .int .i64 t, .int .i64 n, .int .i64 d, .slice A zs.length cz, .int .i64 at_, .int .i64 nu] 63) := ⟨_, rfl⟩
  rw [← hU3] at I2 K2 K B D2; have HU3 := Lib.hid hU3; have HA := Lib.hid (fun g o s (e : A = some ⟨g, o, s⟩) => (show w.heap.size ≤ g by have := hA g o s e; omega)); have HA2 := Lib.hid (fun g o s (e : A = some ⟨g, o, s⟩) => (show g ≠ w.heap.size by have := hA g o s e; omega)); have HI := Lib.hid I2; clear hU3 I I2 hA; obtain ⟨q0, q1, q2, q3, q4, q5, q6, q7, q8⟩ := jq4 K2; have HOR := Lib.hid hor; clear hor
  cases hr : (rdM L).isSome with
  | false =>
    have hn : rdM L = none := by cases e : rdM L with
      | none => rfl
      | some y => rw [e] at hr; cases hr
    have HX : Hid (parM s = none) := Lib.hid (parM_none (by rw [HLL.out]; exact hn)); have KH := Lib.hid K; have HB := Lib.hid B; clear hn K B CF hr
    obtain ⟨y1, hy⟩ : ∃ Y_, Y_ = jzd U3 w.heap.size (.int .i64 0) (.int .i64 0) (.int .i64 0) (.int .i64 0) (.int .i64 0) (.int .i64 0) (.slice none 0 0) (.int .i64 0) (.int .i64 0) := ⟨_, rfl⟩
    have KF := jq7 (v0 := .int .i64 0) (v1 := .int .i64 0) (v2 := .int .i64 0) (v3 := .int .i64 0) (v4 := .int .i64 0) (v5 := .int .i64 0) (v6 := .slice none 0 0) (v7 := .int .i64 0) (v8 := .int .i64 0) KH.out; rw [← hy] at KF; obtain ⟨z0, z1, z2, z3, z4, z5, z6, z7, z8⟩ := jq4 KF; have BF := Lib.hid (show Below w.heap.size w y1 by subst hy; exact jqb HB.out (Nat.le_refl _)); have HY := Lib.hid hy; clear KF hy
    go_wp2_with (first | (show wpList _ _ _ ({ dst := some _, op := _, type := _, pos := _, after := _, guard := _ } :: _) _ (World.alloc _ _); rw [← HU3.out]) | (show wpList _ _ _ ({ dst := _, op := Op.store _ _ _, type := _, pos := _, after := _, guard := _ } :: _) _ _; refine jq5 rfl _ _ _ rfl w.heap.size (.int .i64 0) (.int .i64 0) (.int .i64 0) (.int .i64 0) (.int .i64 0) (.int .i64 0) (.slice none 0 0) (.int .i64 0) (.int .i64 0) rfl rfl KH.out (by kernel_rfl) rfl ?_; rw [← HY.out]))
    refine bodyPost_ret (v := .tuple #[.agg #[.int .i64 0, .int .i64 0, .int .i64 0, .int .i64 0, .int .i64 0, .int .i64 0, .slice none 0 0, .int .i64 0, .int .i64 0], .bool false]) (by simp [results, Try.results96, go_sem, z0, z1, z2, z3, z4, z5, z6, z7, z8]) rfl (by rw [HX.out]; exact outPM_no BF.out)
  | true =>
    have hs : rdM (cutS 32 s) = some ⟨k, ⟨dk, o, t, n, d, zs⟩, at_, nu⟩ := by
      rw [HLL.out]
      rcases HOR.out with e | e
      · rw [e] at hr; cases hr
      · exact e
    by_cases h0 : s.size = 0
    · have he : s.toList.isEmpty = true := by rw [ByteArray.toList_eq, List.isEmpty_iff]; exact List.length_eq_zero_iff.1 (by rw [jx9]; exact h0)
      have HX : Hid (parM s = none) := Lib.hid (parM_zero h0); have KH := Lib.hid K; have HB := Lib.hid B; clear h0 K B CF hs hr
      obtain ⟨y1, hy⟩ : ∃ Y_, Y_ = jzd U3 w.heap.size (.int .i64 0) (.int .i64 0) (.int .i64 0) (.int .i64 0) (.int .i64 0) (.int .i64 0) (.slice none 0 0) (.int .i64 0) (.int .i64 0) := ⟨_, rfl⟩
      have KF := jq7 (v0 := .int .i64 0) (v1 := .int .i64 0) (v2 := .int .i64 0) (v3 := .int .i64 0) (v4 := .int .i64 0) (v5 := .int .i64 0) (v6 := .slice none 0 0) (v7 := .int .i64 0) (v8 := .int .i64 0) KH.out; rw [← hy] at KF; obtain ⟨z0, z1, z2, z3, z4, z5, z6, z7, z8⟩ := jq4 KF; have BF := Lib.hid (show Below w.heap.size w y1 by subst hy; exact jqb HB.out (Nat.le_refl _)); have HY := Lib.hid hy; clear KF hy
      go_wp2_with (first | (show wpList _ _ _ ({ dst := some _, op := _, type := _, pos := _, after := _, guard := _ } :: _) _ (World.alloc _ _); rw [← HU3.out]) | (show wpList _ _ _ ({ dst := _, op := Op.store _ _ _, type := _, pos := _, after := _, guard := _ } :: _) _ _; refine jq5 rfl _ _ _ rfl w.heap.size (.int .i64 0) (.int .i64 0) (.int .i64 0) (.int .i64 0) (.int .i64 0) (.int .i64 0) (.slice none 0 0) (.int .i64 0) (.int .i64 0) rfl rfl KH.out (by kernel_rfl) rfl ?_; rw [← HY.out]))
      refine bodyPost_ret (v := .tuple #[.agg #[.int .i64 0, .int .i64 0, .int .i64 0, .int .i64 0, .int .i64 0, .int .i64 0, .slice none 0 0, .int .i64 0, .int .i64 0], .bool false]) (by simp [results, Try.results96, go_sem, z0, z1, z2, z3, z4, z5, z6, z7, z8]) rfl (by rw [HX.out]; exact outPM_no BF.out)
    · have he : s.toList.isEmpty = false := by rw [ByteArray.toList_eq, List.isEmpty_eq_false_iff]; exact ne_nil (by omega)
      have CT := CF.out U3 D2; clear CF
      by_cases e : T = s
      · subst e
        have HX : Hid (parM T = some ⟨k, ⟨dk, o, t, n, d, zs⟩, at_, nu⟩) := Lib.hid (parM_good hs h0 HT.out); clear h0 hs hr
        go_wp2_with (first | (show wpList _ _ _ ({ dst := some _, op := _, type := _, pos := _, after := _, guard := _ } :: _) _ (World.alloc _ _); rw [← HU3.out]))
        refine CT.mono ?_; rintro e u4 ⟨rfl, C⟩; have KH := Lib.hid (K.next C); have HB := Lib.hid (jq2 B C); replace HI := Lib.hid (jq9 HI.out C); replace K2 := K2.next C; clear q0 q1 q2 q3 q4 q5 q6 q7 q8 K B C; obtain ⟨q0, q1, q2, q3, q4, q5, q6, q7, q8⟩ := jq4 K2
        obtain ⟨y1, hy⟩ : ∃ Y_, Y_ = jzd u4 w.heap.size (.int .i64 k) (.int .i64 dk) (.int .i64 o) (.int .i64 t) (.int .i64 n) (.int .i64 d) (.slice A zs.length cz) (.int .i64 at_) (.int .i64 nu) := ⟨_, rfl⟩
        have KF := jq7 (v0 := .int .i64 k) (v1 := .int .i64 dk) (v2 := .int .i64 o) (v3 := .int .i64 t) (v4 := .int .i64 n) (v5 := .int .i64 d) (v6 := .slice A zs.length cz) (v7 := .int .i64 at_) (v8 := .int .i64 nu) KH.out; rw [← hy] at KF; obtain ⟨z0, z1, z2, z3, z4, z5, z6, z7, z8⟩ := jq4 KF; have BF := Lib.hid (show Below w.heap.size w y1 by subst hy; exact jqb HB.out (Nat.le_refl _)); have IF := Lib.hid (ints_far9 HI.out KH.out HA2.out hy); have HY := Lib.hid hy; clear KF hy
        go_wp2_with (first | (show wpList _ _ _ ({ dst := _, op := Op.store _ _ _, type := _, pos := _, after := _, guard := _ } :: _) _ _; refine jq5 rfl _ _ _ rfl w.heap.size (.int .i64 k) (.int .i64 dk) (.int .i64 o) (.int .i64 t) (.int .i64 n) (.int .i64 d) (.slice A zs.length cz) (.int .i64 at_) (.int .i64 nu) rfl rfl KH.out (by kernel_rfl) rfl ?_; rw [← HY.out]))
        refine bodyPost_ret (v := .tuple #[.agg #[.int .i64 k, .int .i64 dk, .int .i64 o, .int .i64 t, .int .i64 n, .int .i64 d, .slice A zs.length cz, .int .i64 at_, .int .i64 nu], .bool true]) (by simp [results, Try.results96, go_sem, z0, z1, z2, z3, z4, z5, z6, z7, z8]) rfl (by rw [HX.out]; exact ⟨A, cz, ⟨k, ⟨dk, o, t, n, d, zs⟩, at_, nu⟩, rfl, rfl, IF.out, HA.out, hcz, hxl, BF.out⟩)
      · have HX : Hid (parM s = none) := Lib.hid (parM_bad hs (by rw [HT.out]; exact e))
        have tt : (T.toList == s.toList) = false := by rw [ByteArray.toList_eq, ByteArray.toList_eq, beq_eq_false_iff_ne]; intro c; exact e (by rw [← txt_of T, c, txt_of])
        have tt2 : (T.toList != s.toList) = true := by rw [bne, tt]; rfl
        clear h0 e hs hr
        go_wp2_with (first | (show wpList _ _ _ ({ dst := some _, op := _, type := _, pos := _, after := _, guard := _ } :: _) _ (World.alloc _ _); rw [← HU3.out]))
        refine CT.mono ?_; rintro e u4 ⟨rfl, C⟩; have KH := Lib.hid (K.next C); have HB := Lib.hid (jq2 B C); clear q0 q1 q2 q3 q4 q5 q6 q7 q8 K B C K2
        obtain ⟨y1, hy⟩ : ∃ Y_, Y_ = jzd u4 w.heap.size (.int .i64 0) (.int .i64 0) (.int .i64 0) (.int .i64 0) (.int .i64 0) (.int .i64 0) (.slice none 0 0) (.int .i64 0) (.int .i64 0) := ⟨_, rfl⟩
        have KF := jq7 (v0 := .int .i64 0) (v1 := .int .i64 0) (v2 := .int .i64 0) (v3 := .int .i64 0) (v4 := .int .i64 0) (v5 := .int .i64 0) (v6 := .slice none 0 0) (v7 := .int .i64 0) (v8 := .int .i64 0) KH.out; rw [← hy] at KF; obtain ⟨z0, z1, z2, z3, z4, z5, z6, z7, z8⟩ := jq4 KF; have BF := Lib.hid (show Below w.heap.size w y1 by subst hy; exact jqb HB.out (Nat.le_refl _)); have HY := Lib.hid hy; clear KF hy
        go_wp2_with (first | (show wpList _ _ _ ({ dst := _, op := Op.store _ _ _, type := _, pos := _, after := _, guard := _ } :: _) _ _; refine jq5 rfl _ _ _ rfl w.heap.size (.int .i64 0) (.int .i64 0) (.int .i64 0) (.int .i64 0) (.int .i64 0) (.int .i64 0) (.slice none 0 0) (.int .i64 0) (.int .i64 0) rfl rfl KH.out (by kernel_rfl) rfl ?_; rw [← HY.out]))
        refine bodyPost_ret (v := .tuple #[.agg #[.int .i64 0, .int .i64 0, .int .i64 0, .int .i64 0, .int .i64 0, .int .i64 0, .slice none 0 0, .int .i64 0, .int .i64 0], .bool false]) (by simp [results, Try.results96, go_sem, z0, z1, z2, z3, z4, z5, z6, z7, z8]) rfl (by rw [HX.out]; exact outPM_no BF.out)
theorem sParE (s : ByteArray) (w : World) (h : s.size ≤ 1048576) :
  Calls Try.prog 37 #[.string s] w (OutPM w (parM s)) := by
 have B := (Below.refl w.heap.size w).alloc (Nat.le_refl _) (.cells #[.int .i64 0, .int .i64 0, .int .i64 0, .int .i64 0, .int .i64 0, .int .i64 0, .slice none 0 0, .int .i64 0, .int .i64 0] 63); have K := Blk.new w 63 #[.int .i64 0, .int .i64 0, .int .i64 0, .int .i64 0, .int .i64 0, .int .i64 0, .slice none 0 0, .int .i64 0, .int .i64 0]
 obtain ⟨U, hU⟩ : ∃ U, U = w.alloc (.cells #[.int .i64 0, .int .i64 0, .int .i64 0, .int .i64 0, .int .i64 0, .int .i64 0, .slice none 0 0, .int .i64 0, .int .i64 0] 63) := ⟨_, rfl⟩
 rw [← hU] at B K; have HU := Lib.hid hU; clear hU; have CC := Lib.hid (spar s U h); generalize parM s = R at *; have hwU := K.lt; go_enter Try.func37, Try.ntmps37
 go_wp2_with (first | (show wpList _ _ _ ({ dst := some _, op := _, type := _, pos := _, after := _, guard := _ } :: _) _ (World.alloc _ _); rw [← HU.out]))
 refine CC.out.mono ?_; rintro e u2 ⟨A, cz, x, hx, rfl, I, hA, hcz, hxl, C⟩; have HX := Lib.hid hx; have HA := Lib.hid (fun g o s (e : A = some ⟨g, o, s⟩) => (show w.heap.size ≤ g by have := hA g o s e; omega)); have HA2 := Lib.hid (fun g o s (e : A = some ⟨g, o, s⟩) => (show g ≠ w.heap.size by have := hA g o s e; omega)); have KH := Lib.hid (K.next C); have HB := Lib.hid (jq2 B C); obtain ⟨k, ⟨dk, o, t, n, d, zs⟩, at_, nu⟩ := x; dsimp only at I hcz hxl; have HI := Lib.hid I; generalize hb : R.isSome = b at *; have HBB := Lib.hid hb; clear hx hA C K B I hb
 obtain ⟨y1, hy⟩ : ∃ Y_, Y_ = jzd u2 w.heap.size (.int .i64 k) (.int .i64 dk) (.int .i64 o) (.int .i64 t) (.int .i64 n) (.int .i64 d) (.slice A zs.length cz) (.int .i64 at_) (.int .i64 nu) := ⟨_, rfl⟩
 have KF := jq7 (v0 := .int .i64 k) (v1 := .int .i64 dk) (v2 := .int .i64 o) (v3 := .int .i64 t) (v4 := .int .i64 n) (v5 := .int .i64 d) (v6 := .slice A zs.length cz) (v7 := .int .i64 at_) (v8 := .int .i64 nu) KH.out; rw [← hy] at KF; obtain ⟨z0, z1, z2, z3, z4, z5, z6, z7, z8⟩ := jq4 KF; have BF := Lib.hid (show Below w.heap.size w y1 by subst hy; exact jqb HB.out (Nat.le_refl _)); have IF := Lib.hid (ints_far9 HI.out KH.out HA2.out hy); have HY := Lib.hid hy; clear KF hy
 go_wp2_with (first | (show wpList _ _ _ ({ dst := _, op := Op.store _ _ _, type := _, pos := _, after := _, guard := _ } :: _) _ _; refine jq5 rfl _ _ _ rfl w.heap.size (.int .i64 k) (.int .i64 dk) (.int .i64 o) (.int .i64 t) (.int .i64 n) (.int .i64 d) (.slice A zs.length cz) (.int .i64 at_) (.int .i64 nu) rfl rfl KH.out (by kernel_rfl) rfl ?_; rw [← HY.out]))
 refine bodyPost_ret (v := .tuple #[.agg #[.int .i64 k, .int .i64 dk, .int .i64 o, .int .i64 t, .int .i64 n, .int .i64 d, .slice A zs.length cz, .int .i64 at_, .int .i64 nu], .bool b]) (by simp [results, Try.results37, go_sem, z0, z1, z2, z3, z4, z5, z6, z7, z8]) rfl ⟨A, cz, ⟨k, ⟨dk, o, t, n, d, zs⟩, at_, nu⟩, HX.out, by rw [HBB.out], IF.out, HA.out, hcz, hxl, BF.out⟩
end Go.Proofs.Ytaehemmjemhgpaa
