/- For every input the law answers true, and its argument reads afterwards as before: wishes may all be alike. No condition. -/
import Derived.Test.YtpkjnhpgeajgoaaRows
import Derived.Test.YtpkjnhpgeajgoaaDrawWe
import Derived.WalkKit
import Derived.ProofKit
import Derived.OpenShut
import Derived.ShutString
import Derived.ChangeOld
import Derived.Below
import Derived.Lib.SmallJoins
namespace Go.Proofs.Ytpkjnhpgeajgoaa.fnValidWishes
open Go.ChangeShapes Go.WideShapes Go.ChangeAt Go.RowKit Go.Joins
open Go.ChangeMaps (open_string shut_string)
set_option linter.unusedVariables false
set_option linter.unusedSimpArgs false

theorem own : ownKnob Try.prog.godebug = none := by kernel_rfl
theorem laidOut : laidOutB Try.prog = true := by kernel_rfl
theorem plc_last {r : List Int} {n : Nat} (hl : r.length = n) (hn : 0 < n) (hd : r.Nodup) : plcV r (r.getD (n - 1) 0) = ((n - 1 : Nat) : Int) := by
  refine plc_at (by omega) (fun j hj e => ?_) rfl
  have hnd := nodup_take.1 hd (n - 1) (by omega)
  have e2 : r[j]'(by omega) = r.getD j 0 := by rw [List.getD_eq_getElem?_getD, List.getElem?_eq_getElem (by omega)]; rfl
  exact hnd (List.mem_take_iff_getElem.2 ⟨j, by omega, e2.trans e⟩)
theorem wish_law {rs : List (List Int)} (h : wishB rs = true) : (∀ k, k < rs.length → (rs.getD k []).length = rs.length ∧ rkV rs (k : Int) ((rs.getD k []).getD (rs.length - 1) 0) = ((rs.length - 1 : Nat) : Int)) ∧ wishB (List.replicate rs.length (rs.getD 0 [])) = true := by
  have hw := h
  unfold wishB at hw
  rw [Bool.and_eq_true, List.all_eq_true, decide_eq_true_eq] at hw
  have ho := fun k hk => (ordB_iff _ _).1 (hw.2 _ (rows_mem (rs := rs) (k := k) hk))
  refine ⟨fun k hk => ⟨(ho k hk).1, ?_⟩, ?_⟩
  · rw [rk_yes h hk]
    have hl := (ho k hk).1
    exact plc_last hl (by omega) (ho k hk).2.1
  · refine wish_yes (by simpa using hw.1) (fun k hk => ?_)
    rw [List.length_replicate] at hk ⊢
    have : (List.replicate rs.length (rs.getD 0 [])).getD k [] = rs.getD 0 [] := by
      rw [List.getD_eq_getElem?_getD, List.getElem?_replicate, if_pos hk]; rfl
    rw [this]
    exact (ordB_iff _ _).2 (ho 0 (by omega))
theorem app_facts {w u1 wr w9 : World} {lo k : Nat} {sv : Value} {xs : List Value} {O : Obj} (h : wr.ownsRow lo 26 1 sv k xs) (B : Below w.heap.size w wr) (D : Below u1.heap.size u1 wr) (hG : (wr.alloc O).grownBy w9 sv.ownBlock) (h1 : w.heap.size ≤ lo) (h2 : u1.heap.size ≤ lo) (h3 : lo ≤ wr.heap.size) : Below w.heap.size w w9 ∧ Below u1.heap.size u1 w9 ∧ wr.heap.size ≤ w9.heap.size := by
  have hs := hG.size
  simp at hs
  exact ⟨(B.alloc B.size O).grown hG (by simp; have := B.size; omega) (fun q hq => by have := (h.lt q hq).1; omega), (D.alloc D.size O).grown hG (by simp; have := D.size; omega) (fun q hq => by have := (h.lt q hq).1; omega), by omega⟩
theorem rep_rows {wr : World} {lo n : Nat} {sv : Value} {R0 : Value} {r : List Int} {b : Option Addr} (h : wr.ownsRow lo 26 1 sv n (List.replicate n R0)) (hr : 0 < n → ∃ A cz g o, b = some ⟨g, o, none⟩ ∧ wr.cell? ⟨g, o, none⟩ = some R0 ∧ R0 = .slice A n cz ∧ n ≤ cz ∧ IsInts wr A r) (hl : 0 < n → r.length = n) : ∃ a cap, sv = .slice a n cap ∧ IsRows wr a (List.replicate n r) := by
  obtain ⟨_, h0 | ⟨g, cap, cur, hv, hg, hb, hc, hm, hs, ht⟩⟩ := id h
  · refine ⟨none, 0, by rw [h0.1, h0.2], .inl ?_⟩
    rw [h0.2]; rfl
  · subst hv
    refine ⟨some ⟨g, 0, none⟩, cap, rfl, .inr ⟨g, 0, rfl, fun i hi => ?_⟩⟩
    rw [List.length_replicate] at hi
    obtain ⟨A, cz, _, _, _, _, he, hcz, hin⟩ := hr (by omega)
    have hgd : (List.replicate n r).getD i [] = r := by
      rw [List.getD_eq_getElem?_getD, List.getElem?_replicate, if_pos hi]; rfl
    rw [hgd]
    have := World.ownsRow.cells (g := g) h rfl i R0 (by rw [List.getElem?_replicate, if_pos hi])
    rw [add_off, he] at this
    exact ⟨A, cz, by rw [hl (by omega)]; exact this, by rw [hl (by omega)]; exact hcz, hin⟩

set_option maxRecDepth 100000 in
set_option maxHeartbeats 6000000 in
theorem walk (a0 : Option Addr) (len0 cap0 : Nat) (z0 : List Int) (w : World) (w0 : IsRow .u8 w a0 len0 cap0 z0) :
    Calls Try.prog 3 #[.slice a0 len0 cap0] w fun e w' => e = .returned (.bool true) ∧ Below w.heap.size w w' := by
  by_cases big : (1048576 : Int) < (len0 : Int)
  · go_enter Try.func3, Try.ntmps3
    go_wp2
    go_ret
    exact ⟨rfl, Below.refl _ _⟩
  obtain ⟨j0, hjj, hy0, hy1, hy2⟩ := info_parts infoRow
  go_enter Try.func3, Try.ntmps3
  go_wp2_with fail
  refine (drawValidWishes a0 len0 cap0 z0 _ w0).mono ?_
  rintro e u1 ⟨b, cp, rs, rfl, hl8, hlc, hi, B⟩
  clear w0 big
  have n1 : rs.length ≤ 1048576 := by omega
  have CI := iVW b cp rs u1 hi n1
  have CS : ∀ W, Below u1.heap.size u1 W → Calls Try.prog 10 #[.slice b rs.length cp] W fun e w' => e = .returned (.bool (wishB rs)) ∧ Below W.heap.size W w' := fun W hW => sVW b cp rs W (rows_below hi hW) n1
  have D := Below.refl u1.heap.size u1
  cases hv : wishB rs with
  | false =>
    rw [hv] at CI CS
    clear hv hi
    go_wp2_with fail
    refine CI.mono ?_
    rintro e w' ⟨rfl, rfl⟩
    clear CI
    go_wp2_with fail
    refine (CS _ D).mono ?_
    rintro e u ⟨rfl, C⟩
    replace B := bel_tr B C
    replace D := bel_tr D C
    clear C
    go_wp2_with fail
    refine (CS _ D).mono ?_
    rintro e u ⟨rfl, C⟩
    replace B := bel_tr B C
    clear C
    go_wp2_with fail
    go_ret
    exact ⟨rfl, B⟩
  | true =>
    rw [hv] at CI CS
    obtain ⟨hrow, hrep⟩ := wish_law hv
    have HROW := Lib.hid hrow
    have HREP := Lib.hid hrep
    have HI := Lib.hid hi
    have hwu := B.size
    clear hv hi hrow hrep
    go_wp2_with fail
    refine CI.mono ?_
    rintro e w' ⟨rfl, rfl⟩
    clear CI
    go_wp2_with fail
    refine (CS _ D).mono ?_
    rintro e u ⟨rfl, C⟩
    replace B := bel_tr B C
    replace D := bel_tr D C
    clear C CS
    have hOs : (u.alloc (.cells #[] 26)).ownsRow u.heap.size 26 1 (.slice (some ⟨u.heap.size, 0, none⟩) 0 0) 0 [] := ⟨by simp, .inr ⟨u.heap.size, 0, #[], rfl, Nat.le_refl _, Go.Deep.blk_alloc_new _ _, Nat.le_refl _, by unfold maxLen; omega, rfl, rfl⟩⟩
    have B0 := B.alloc B.size (.cells #[] 26)
    have D0 := D.alloc D.size (.cells #[] 26)
    have hsu : u.heap.size < (u.alloc (.cells #[] 26)).heap.size := by simp
    have hu1 := D.size
    have hwz : w.heap.size ≤ u.heap.size := B.size
    clear B D
    go_wp2_with fail
    generalize u.alloc (.cells #[] 26) = U at hOs B0 D0 hsu ⊢
    generalize u.heap.size = lo at hOs hsu hu1 hwz ⊢
    obtain ⟨R0, hR0⟩ : ∃ R0 : Value, ∀ W, Below u1.heap.size u1 W → 0 < rs.length → ∃ A cz g o, b = some ⟨g, o, none⟩ ∧ W.cell? ⟨g, o, none⟩ = some R0 ∧ R0 = .slice A rs.length cz ∧ rs.length ≤ cz ∧ IsInts W A (rs.getD 0 []) := by
      by_cases hz : 0 < rs.length
      · have hcl := HI.out
        rcases hcl with rfl | ⟨g, o, rfl, hc⟩
        · simp at hz
        obtain ⟨A, cz, c0, hcz, hin⟩ := hc 0 hz
        have hl0 := (HROW.out 0 hz).1
        rw [hl0] at c0 hcz
        rw [Nat.add_zero] at c0
        exact ⟨_, fun W hW _ => ⟨A, cz, g, o, rfl, (hW.cell (World.block_lt_of_cell? u1 _ c0)).trans c0, rfl, hcz, ints_below hin hW⟩⟩
      · exact ⟨undef, fun _ _ h => absurd h hz⟩
    have HR0 := Lib.hid hR0
    clear hR0
    go_loopw [5, 6] (fun sv iv wr => ∃ k : Nat, k ≤ rs.length ∧ iv = .int .i64 k ∧ wr.ownsRow lo 26 1 sv k (List.replicate k R0) ∧ Below w.heap.size w wr ∧ Below u1.heap.size u1 wr ∧ lo < wr.heap.size) (fun _ iv _ => rs.length - (intOf iv).toNat)
    case atStart => exact ⟨0, Nat.zero_le _, rfl, hOs, B0, D0, hsu⟩
    case round =>
      clear hOs B0 D0 hsu
      obtain ⟨k, hk, rfl, hown, B, D, hsz⟩ := hrel
      by_cases hlt : k < rs.length
      · obtain ⟨A0, cz0, g, o, rfl, c0, hRe, _, _⟩ := HR0.out wr D (by omega)
        have hcl := HI.out
        rcases hcl with rfl | ⟨g', o', hgo, hc⟩
        · simp at hlt
        injection hgo with hgo
        injection hgo with e1 e2
        subst e1 e2
        obtain ⟨A, cr, ck, hcr, hin⟩ := hc k hlt
        obtain ⟨hlr, hrk⟩ := HROW.out k hlt
        obtain ⟨r, hr⟩ : ∃ r, rs.getD k [] = r := ⟨_, rfl⟩
        rw [hr] at ck hcr hin hlr hrk
        rw [hlr] at ck
        obtain ⟨n, hn⟩ : ∃ n, rs.length = n + 1 := ⟨rs.length - 1, by omega⟩
        rcases hin with rfl | ⟨ga, oa, rfl, hcc⟩
        · simp at hlr; omega
        have cl := hcc n (by omega)
        have hnn : rs.length - 1 = n := by omega
        rw [hnn] at hrk
        generalize r.getD n 0 = x at cl hrk
        have CR : ∀ W, Below u1.heap.size u1 W → Calls Try.prog 11 #[.slice (some ⟨g, o, none⟩) rs.length cp, .int .i64 (k : Int), .int .i64 x] W fun e w' => e = .returned (.int .i64 (n : Int)) ∧ W = w' := fun W hW => by
          have := iRank (some ⟨g, o, none⟩) cp rs (k : Int) x W (rows_below HI.out hW) n1
          rw [hrk] at this; exact this
        have HCK := Lib.hid ck
        have HCL := Lib.hid cl
        have HO := Lib.hid hown
        have HB := Lib.hid B
        have HD := Lib.hid D
        have k0 : (0 : Int) ≤ (k : Int) := by omega
        have k1 : (k : Int) < (rs.length : Int) := by omega
        have z1 : (0 : Int) < (rs.length : Int) := by omega
        have z2 : 0 < rs.length := by omega
        have wn : IntKind.i64.wrap ((rs.length : Int) - 1) = (n : Int) := by rw [IntKind.wrap_i64]; omega
        have nn0 : (0 : Int) ≤ (n : Int) := by omega
        have nn1 : (n : Int) < (rs.length : Int) := by omega
        have hkb : k ≤ 8 := by omega
        clear hc hcc ck cl hcr hrk hlr hr hown B D hn hnn
        go_wp2_with (first | (at_builtin; refine wpList_append_any _ rfl (.tmp 33) (.tmp 37) 23 rfl lo 26 j0 _ 1 24 Try.underlying23 hjj hy0 hy1 hy2 rfl (by decide) _ _ _ rfl (HO.out.alloc _) _ (some ⟨wr.heap.size, 0, none⟩) 1 1 [.slice A0 rs.length cz0] rfl (reads_new _ _ _) (fun q hq => by simp at hq; subst hq; rfl) (by unfold maxLen; omega) (by omega) (by simp; omega) ?_; intro v9 w9 own9 gr9 hat9; obtain ⟨B9, D9, s9⟩ := app_facts HO.out HB.out HD.out gr9 hwz hu1 (Nat.le_of_lt hsz); have ck := (D9.cell (World.block_lt_of_cell? u1 _ HCK.out)).trans HCK.out; have cl := (D9.cell (World.block_lt_of_cell? u1 _ HCL.out)).trans HCL.out; clear gr9 hat9))
        refine (CR _ D9).mono ?_
        rintro e w' ⟨rfl, rfl⟩
        clear ck cl
        go_wp2_with fail
        go_roundw
        case rel => exact ⟨k + 1, by omega, by go_num, by rw [List.replicate_succ']; rw [← hRe] at own9; exact own9, B9, D9, by omega⟩
        case measure => simp [intOf]; omega
      · obtain rfl : k = rs.length := by omega
        obtain ⟨a2, cap2, hsv, hrows2⟩ := rep_rows (r := rs.getD 0 []) hown (fun h => HR0.out wr D h) (fun h => (HROW.out 0 h).1)
        have hlr : (List.replicate rs.length (rs.getD 0 [])).length = rs.length := by simp
        have CV := iVW a2 cap2 _ wr hrows2 (by rw [hlr]; exact n1)
        rw [hlr, HREP.out] at CV
        subst hsv
        clear hrows2 hlr hown
        go_wp2_with fail
        refine CV.mono ?_
        rintro e w' ⟨rfl, rfl⟩
        clear CV
        go_wp2_with fail
        go_ret
        exact ⟨rfl, B⟩

set_option maxRecDepth 100000 in
theorem lifted (os : Os) (started : os.Started) (H : Type) (enc : TypeId × Value → H) :
    ReturnsInHanded {} Try.checked os 3 .any (Rows.fnValidWishesSpec.pre6 enc Try.prog Try.f3 Rows.fnValidWishesRow.domain false) (Rows.fnValidWishesSpec.post enc Try.prog Try.f3 false true false false) := by
  refine returnsInHanded_of_change (C := Try.checked) own started (by kernel_rfl) Try.func3
    (ChangeSpec.witness6 (enc := enc) (C := Try.checked) false ⟨#[], #[.slice none 0 0], []⟩ 8 (by kernel_rfl) (by kernel_rfl) (by kernel_rfl) (by kernel_rfl)) ?_
  intro W base args ds gs before hval0 hW hcnd _
  have hval : ∀ (j : Nat) t v, Try.f3.params[j]? = some t → args[j]? = some v → Value.okWide Try.prog W .any base t v := hval0
  have hW' := hW
  obtain ⟨p, q, hA0, hV, rfl, hfz, hnd⟩ := hW
  have hA : DataW.TrodAll enc Try.prog W 0 (fun _ => true) true Try.f3.params.toList args.toList ds p := hA0
  rw [Try.params3] at hA hval
  obtain ⟨v0, vs0, e0, es0, p0, q0, hargs, rfl, rfl, h0, r0⟩ := trodAll_cons hA
  obtain ⟨rfl, rfl, rfl⟩ := trodAll_nil r0
  obtain rfl : args = #[v0] := by cases args; simp_all
  obtain ⟨rfl, rfl⟩ := trodVars_none hV
  have k0 := h0
  have lt0 : ∀ x ∈ p0, x.block < W.heap.size := by obtain ⟨m, hm⟩ := k0; exact DataW.trod_lt m _ _ _ hm
  obtain ⟨a0, len0, cap0, rfl⟩ := okWide_slice Try.underlying22 (hval 0 22 v0 rfl rfl)
  obtain ⟨z0, w0⟩ : ∃ zs, IsRow .u8 W a0 len0 cap0 zs := by
    obtain ⟨fuel, hf⟩ := h0
    rcases open_ints Try.underlying22 Try.underlying5 (by kernel_rfl) hf with ⟨hcs, _⟩ | ⟨x, l, c, zs, hcs, _, hl, hm, hz, _, hcell, hwz⟩
    · simp [Value.cells] at hcs
      obtain ⟨rfl, rfl, rfl⟩ := hcs
      exact ⟨[], .inl ⟨rfl, rfl, rfl, rfl⟩⟩
    · simp [Value.cells] at hcs
      obtain ⟨rfl, rfl, rfl⟩ := hcs
      exact ⟨zs, .inr ⟨_, rfl, hl, hm, by simpa using hz, hcell, hwz⟩⟩
  clear hA0 hval0
  refine (walk a0 len0 cap0 z0 W w0).mono fun e W' ⟨he, bel⟩ => ?_
  subst he
  exact ⟨_, rfl, _, _, _, [], _, [], hW', trodAll_mk1 (shut_bool Try.underlying4 _), (trodAll_cons_mk (Below.trod laidOut (by kernel_rfl) (of_decide_eq_true (by kernel_rfl)) k0 bel lt0) trodAll_mk0), rfl, bel.frame _, fun h => by cases h⟩

theorem over : Rows.fnValidWishesRow.holds Try.pinned (OpenSpec.ofChange Rows.fnValidWishesSpec) :=
  OpenClaim.holds_of_wide 3 Try.f3 rfl rfl rfl rfl rfl rfl rfl ⟨rfl, rfl, rfl, rfl, rfl⟩ rfl rfl rfl rfl rfl (by kernel_rfl) Try.func3 (by kernel_rfl)
    (of_decide_eq_true (by kernel_rfl)) (by unfold Func.isWrapper; first | (rw [if_pos (by decide +kernel)]; kernel_rfl) | (rw [if_neg (by decide +kernel)]; exact ⟨rfl, rfl⟩))
    (fun os started H enc _ => lifted os started H enc)

end Go.Proofs.Ytpkjnhpgeajgoaa.fnValidWishes
namespace Go.Proofs.Ytpkjnhpgeajgoaa
/-- the statement -/
theorem fnValidWishes_holds : Rows.FnValidWishesSaid := fnValidWishes.over
end Go.Proofs.Ytpkjnhpgeajgoaa
