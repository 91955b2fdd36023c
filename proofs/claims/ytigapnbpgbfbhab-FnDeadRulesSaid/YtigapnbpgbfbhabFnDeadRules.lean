/- For every input the law answers true, and its argument reads afterwards as before: dead customs can be given up. No condition. -/
import Derived.Test.YtigapnbpgbfbhabRows
import Derived.Test.YtigapnbpgbfbhabDrawDr
import Derived.Test.YtigapnbpgbfbhabRulI
import Derived.Test.YtigapnbpgbfbhabRulS
import Derived.Test.YtigapnbpgbfbhabRulT
import Derived.Test.YtigapnbpgbfbhabRulQ
import Derived.Test.YtigapnbpgbfbhabLawIn
import Derived.Test.YtigapnbpgbfbhabEqI
import Derived.WalkKit
import Derived.Deep.RegionHeld3
import Derived.Deep.RegionWith
import Derived.Deep.QuietTactic
import Derived.BigQuiet
import Derived.RegionTactic
import Derived.ChangeAlike
import Derived.BigRegion
import Derived.ProofKit
import Derived.OpenShut
import Derived.ShutString
import Derived.ChangeOld
import Derived.Below
import Derived.Lib.SmallJoins
namespace Go.Proofs.Ytigapnbpgbfbhab.fnDeadRules
open Go.ChangeShapes Go.WideShapes Go.ChangeAt Go.RowKit Go.Joins
open Go.ChangeMaps (open_string shut_string)
set_option linter.unusedVariables false
set_option linter.unusedSimpArgs false

theorem own : ownKnob Try.prog.godebug = none := by kernel_rfl
theorem laidOut : laidOutB Try.prog = true := by kernel_rfl

theorem infoBoolR : (Try.prog.info? 4).map (fun i => (i.zero, i.size, i.bytes)) = some (some (.bool false), 1, 1) := by kernel_rfl
def MetTo (rs : List Ru) (h u : Nat) (F : Nat → Bool) : Prop := ∀ j : Nat, F j = true ↔ ∃ a b : Nat, ((a < h ∧ b < 501) ∨ (a = h ∧ b < u)) ∧ frF rs (a : Int) (b : Int) = (j : Int)
theorem met_zero (rs : List Ru) : MetTo rs 0 0 (fun _ => false) := fun j => by
  constructor
  · intro h; cases h
  · rintro ⟨a, b, h | h, _⟩ <;> omega
theorem met_no {rs : List Ru} {h u : Nat} {F : Nat → Bool} (H : MetTo rs h u F) (hu : u < 501) (e : frF rs (h : Int) (u : Int) = -1) : MetTo rs h (u + 1) F := fun j => by
  rw [H j]
  constructor
  · rintro ⟨a, b, c, d⟩; exact ⟨a, b, by omega, d⟩
  · rintro ⟨a, b, c, d⟩
    refine ⟨a, b, ?_, d⟩
    rcases c with c | ⟨c1, c2⟩
    · exact Or.inl c
    · by_cases q : b = u
      · subst q; subst c1; rw [e] at d; omega
      · exact Or.inr ⟨c1, by omega⟩
theorem met_yes {rs : List Ru} {h u y : Nat} {F : Nat → Bool} (H : MetTo rs h u F) (hu : u < 501) (e : frF rs (h : Int) (u : Int) = (y : Int)) : MetTo rs h (u + 1) (fun j => if j = y then true else F j) := fun j => by
  show (if j = y then true else F j) = true ↔ _
  by_cases hj : j = y
  · subst hj
    rw [if_pos rfl]
    exact ⟨fun _ => ⟨h, u, Or.inr ⟨rfl, by omega⟩, e⟩, fun _ => rfl⟩
  · rw [if_neg hj, H j]
    constructor
    · rintro ⟨a, b, c, d⟩; exact ⟨a, b, by omega, d⟩
    · rintro ⟨a, b, c, d⟩
      refine ⟨a, b, ?_, d⟩
      rcases c with c | ⟨c1, c2⟩
      · exact Or.inl c
      · by_cases q : b = u
        · subst q; subst c1; rw [e] at d; omega
        · exact Or.inr ⟨c1, by omega⟩
theorem met_next {rs : List Ru} {h : Nat} {F : Nat → Bool} (H : MetTo rs h 501 F) : MetTo rs (h + 1) 0 F := fun j => by
  rw [H j]
  constructor
  · rintro ⟨a, b, c, d⟩; exact ⟨a, b, by omega, d⟩
  · rintro ⟨a, b, c, d⟩; exact ⟨a, b, by omega, d⟩
theorem met_all {rs : List Ru} {F : Nat → Bool} (H : MetTo rs 24 0 F) (j : Nat) : F j = everB rs j := by
  have h2 : everB rs j = true ↔ ∃ a b : Nat, ((a < 24 ∧ b < 501) ∨ (a = 24 ∧ b < 0)) ∧ frF rs (a : Int) (b : Int) = (j : Int) := by
    unfold everB
    rw [List.any_eq_true]
    constructor
    · rintro ⟨a, ha, h⟩
      rw [List.any_eq_true] at h
      obtain ⟨b, hb, h⟩ := h
      rw [List.mem_range] at ha hb
      exact ⟨a, b, Or.inl ⟨ha, hb⟩, by simpa using h⟩
    · rintro ⟨a, b, h | h, d⟩
      · refine ⟨a, List.mem_range.2 h.1, ?_⟩
        rw [List.any_eq_true]
        exact ⟨b, List.mem_range.2 h.2, by simpa using d⟩
      · omega
  have h1 := H j
  rw [← h2] at h1
  cases a : F j <;> cases b : everB rs j <;> simp_all

set_option maxRecDepth 100000 in
set_option maxHeartbeats 8000000 in
theorem walk (a0 : Option Addr) (len0 cap0 : Nat) (z0 : List Int) (w : World) (w0 : IsRow .u8 w a0 len0 cap0 z0) :
    Calls Try.prog 12 #[.slice a0 len0 cap0] w fun e w' => e = .returned (.bool true) ∧ Below w.heap.size w w' := by
  by_cases big : (1048576 : Int) < (len0 : Int)
  · go_enter Try.func12, Try.ntmps12
    go_wp2
    go_ret
    exact ⟨rfl, Below.refl _ _⟩
  go_enter Try.func12, Try.ntmps12
  go_wp2_with fail
  refine (drawDR a0 len0 cap0 z0 _ w0).mono ?_
  rintro e u1 ⟨b1, cp, xs, rfl, l6, hlc, IR, B⟩
  clear w0 big
  have n1 : xs.length ≤ 1048576 := by omega
  obtain ⟨V, hV⟩ : ∃ V, deadV xs = V := ⟨_, rfl⟩
  have hVl : V.length ≤ 1048576 := by
    rw [← hV]
    unfold deadV
    split
    · have := deadTo_len xs xs.length; omega
    · exact Nat.zero_le _
  have HI : Hid (∀  (W : World), (h1 : IsRu W b1 xs) → Calls Try.prog 31 #[.slice b1 xs.length cp] W (OutI W V)) := fun  W h1 => by rw [← hV]; exact iDead b1 cp xs W h1 n1
  have HS : Hid (∀  (W : World), (h1 : IsRu W b1 xs) → Calls Try.prog 30 #[.slice b1 xs.length cp] W (OutI W V)) := fun  W h1 => by rw [← hV]; exact sDead b1 cp xs W h1 n1
  have HQ : Hid (∀ (b : Option Addr) (b' : Option Addr) (c : Nat) (c' : Nat) (W : World), (h1 : IsInts W b V) → (h2 : IsInts W b' V) → Calls Try.prog 16 #[.slice b V.length c, .slice b' V.length c'] W (fun e w' => e = .returned (.bool true) ∧ Below W.heap.size W w')) := fun b b' c c' W h1 h2 => eqInts b b' c c' V W h1 h2 hVl
  cases hv : vrB xs with
  | false =>
    have HV : Hid (∀  (W : World), (h1 : IsRu W b1 xs) → Calls Try.prog 24 #[.slice b1 xs.length cp] W (fun e w' => e = .returned (.bool false) ∧ Below W.heap.size W w')) := fun  W h1 => by have h := iVR b1 cp xs W h1 n1; rw [hv] at h; exact h
    clear hV hv hVl
    go_wp2_with fail
    refine (HI.out _ IR).mono ?_
    rintro e u2_ ⟨vo, rfl, Oo, C_⟩
    obtain ⟨bo, co, rfl, Io⟩ := Oo.ints
    clear Oo
    replace B := bel_tr B C_
    replace IR := ru_below IR C_
    clear C_
    go_wp2_with fail
    refine (HS.out _ IR).mono ?_
    rintro e u3_ ⟨vp, rfl, Op, C_⟩
    obtain ⟨bp, cp, rfl, Ip⟩ := Op.ints
    clear Op
    replace B := bel_tr B C_
    replace IR := ru_below IR C_
    replace Io := ints_below Io C_
    clear C_
    go_wp2_with fail
    refine (HQ.out _ _ _ _ _ Io Ip).mono ?_
    rintro e u4_ ⟨rfl, C_⟩
    replace B := bel_tr B C_
    replace IR := ru_below IR C_
    replace Io := ints_below Io C_
    replace Ip := ints_below Ip C_
    clear C_
    go_wp2_with fail
    clear Ip
    refine (HV.out _ IR).mono ?_
    rintro e u5_ ⟨rfl, C_⟩
    replace B := bel_tr B C_
    replace IR := ru_below IR C_
    replace Io := ints_below Io C_
    clear C_
    go_wp2_with fail
    refine (HS.out _ IR).mono ?_
    rintro e u6_ ⟨vq, rfl, Oq, C_⟩
    obtain ⟨bq, cq, rfl, Iq⟩ := Oq.ints
    clear Oq
    replace B := bel_tr B C_
    replace IR := ru_below IR C_
    replace Io := ints_below Io C_
    clear C_
    go_wp2_with fail
    refine (HQ.out _ _ _ _ _ Io Iq).mono ?_
    rintro e u7_ ⟨rfl, C_⟩
    replace B := bel_tr B C_
    replace IR := ru_below IR C_
    replace Io := ints_below Io C_
    replace Iq := ints_below Iq C_
    clear C_
    go_wp2_with fail
    go_ret
    exact ⟨rfl, B⟩
  | true =>
  have HV : Hid (∀  (W : World), (h1 : IsRu W b1 xs) → Calls Try.prog 24 #[.slice b1 xs.length cp] W (fun e w' => e = .returned (.bool true) ∧ Below W.heap.size W w')) := fun  W h1 => by have h := iVR b1 cp xs W h1 n1; rw [hv] at h; exact h
  have HDM : Hid (∀ i, i < xs.length → decide ((i : Int) ∈ V) = !everB xs i) := fun i hi => by
    have := dead_met hv hi
    rw [hV] at this
    cases he : everB xs i with
    | false => exact decide_eq_true (this.2 he)
    | true => exact decide_eq_false (fun h => by rw [this.1 h] at he; cases he)
  have HF : Hid (∀ (h u : Nat) (W : World), (h1 : IsRu W b1 xs) → Calls Try.prog 27 #[.slice b1 xs.length cp, .int .i64 (h : Int), .int .i64 (u : Int)] W (fun e w' => e = .returned (.int .i64 (frF xs (h : Int) (u : Int))) ∧ Below W.heap.size W w')) := fun h u W h1 => by have q := iFR b1 cp xs (h : Int) (u : Int) W h1 n1; rw [fruV_yes hv] at q; exact q
  have HL : Hid (∀ (b : Option Addr) (c : Nat) (i : Int) (W : World), (h1 : IsInts W b V) → Calls Try.prog 40 #[.slice b V.length c, .int .i64 i] W (fun e w' => e = .returned (.bool (decide (i ∈ V))) ∧ W = w')) := fun b c i W h1 => lisIn b c V i W h1 hVl
  have hmk := run_make_row' (P := Try.prog) 47 4 (.bool false) 1 Try.underlying47 infoBoolR rfl .i64 .i64 xs.length (by omega) (by omega)
  clear hV hv
  go_wp2_with fail
  refine (HI.out _ IR).mono ?_
  rintro e u2_ ⟨vo, rfl, Oo, C_⟩
  obtain ⟨bo, co, rfl, Io⟩ := Oo.ints
  clear Oo
  replace B := bel_tr B C_
  replace IR := ru_below IR C_
  clear C_
  go_wp2_with fail
  refine (HS.out _ IR).mono ?_
  rintro e u3_ ⟨vp, rfl, Op, C_⟩
  obtain ⟨bp, cp, rfl, Ip⟩ := Op.ints
  clear Op
  replace B := bel_tr B C_
  replace IR := ru_below IR C_
  replace Io := ints_below Io C_
  clear C_
  go_wp2_with fail
  refine (HQ.out _ _ _ _ _ Io Ip).mono ?_
  rintro e u4_ ⟨rfl, C_⟩
  replace B := bel_tr B C_
  replace IR := ru_below IR C_
  replace Io := ints_below Io C_
  replace Ip := ints_below Ip C_
  clear C_
  go_wp2_with fail
  clear Ip
  refine (HV.out _ IR).mono ?_
  rintro e u5_ ⟨rfl, C_⟩
  replace B := bel_tr B C_
  replace IR := ru_below IR C_
  replace Io := ints_below Io C_
  clear C_
  clear HI HS HQ HV
  have HIR := Lib.hid IR
  have HIo := Lib.hid Io
  have HB0 := Lib.hid B
  clear B IR Io
  have HM := Lib.hid (World.rowIs_made u5_ (.bool false) xs.length 4)
  have HBM := Lib.hid ((Below.refl u5_.heap.size u5_).alloc (Nat.le_refl _) (.cells (madeCells #[.bool false] xs.length) 4))
  have hg0 : u5_.heap.size ≤ u5_.heap.size := Nat.le_refl _
  go_wp2_with fail
  generalize u5_.alloc (.cells (madeCells #[.bool false] xs.length) 4) = w1 at HM HBM ⊢
  generalize hgg : u5_.heap.size = g at HM ⊢
  replace hg0 : u5_.heap.size ≤ g := by omega
  clear hmk hgg
  go_wp2_with fail
  go_loopw [6] (fun i wr => ∃ (h : Nat) (F : Nat → Bool), h ≤ 24 ∧ i = .int .i64 h ∧ Hid (MetTo xs h 0 F) ∧ wr.rowIs g 4 xs.length (fun j => .bool (F j)) ∧ Below u5_.heap.size u5_ wr) (fun i _ => 24 - (intOf i).toNat)
  case atStart => exact ⟨0, (fun _ => false), Nat.zero_le _, rfl, met_zero xs, HM.out, HBM.out⟩
  case round =>
    clear HM HBM
    obtain ⟨h, F, hh, rfl, HF1, hR, hB⟩ := hrel
    by_cases hlt : h < 24
    · have HR0 := Lib.hid hR
      have HB1 := Lib.hid hB
      have h24 : (h : Int) < 24 := by omega
      clear hR hB
      go_wp2_with fail
      go_loopw [7] (fun i wi => ∃ (t : Nat) (G : Nat → Bool), t ≤ 501 ∧ i = .int .i64 t ∧ Hid (MetTo xs h t G) ∧ wi.rowIs g 4 xs.length (fun j => .bool (G j)) ∧ Below u5_.heap.size u5_ wi) (fun i _ => 501 - (intOf i).toNat)
      case atStart => exact ⟨0, F, Nat.zero_le _, rfl, HF1, HR0.out, HB1.out⟩
      case round =>
        clear HF1 HR0 HB1
        obtain ⟨t, G, ht, rfl, HG, hR, hB⟩ := hrel
        by_cases hu : t < 501
        · have CF := HF.out h t wr (ru_below HIR.out hB)
          have h500 : (t : Int) ≤ 500 := by omega
          have hcs := fr_cases xs (h : Int) (t : Int)
          have HG1 := fun e => met_no HG.out hu e
          have HG2 := fun (y : Nat) e => met_yes (y := y) HG.out hu e
          generalize frF xs (h : Int) (t : Int) = z at CF hcs HG1 HG2
          have HR := Lib.hid hR
          have HB := Lib.hid hB
          clear hR hB
          rcases hcs with ⟨hz, _⟩ | ⟨y, hy, hz, _⟩
          · subst hz
            have HGN := Lib.hid (HG1 rfl)
            clear HG1 HG2 HG
            go_wp2_with fail
            refine CF.mono ?_
            rintro e w3 ⟨rfl, C⟩
            have HX := Lib.hid (And.intro (World.rowIs.of_block HR.out (C.block g (World.rowIs.lt HR.out))) (bel_tr HB.out C))
            clear C CF
            go_wp2_with fail
            go_roundw
            case rel => exact ⟨t + 1, G, by omega, by go_num, HGN, HX.out.1, HX.out.2⟩
            case measure => simp [intOf]; omega
          · subst hz
            have HGN := Lib.hid (HG2 y rfl)
            clear HG1 HG2 HG
            go_wp2_with fail
            refine CF.mono ?_
            rintro e w3 ⟨rfl, C⟩
            have hR3 := World.rowIs.of_block HR.out (C.block g (World.rowIs.lt HR.out))
            have hz := World.rowIs.cell hR3 hy
            have hf := World.rowIs.frozen hR3 y
            have hN := (World.rowIs.set hR3 y (.bool true)).congr (g := fun j => .bool (if j = y then true else G j)) (fun j hj => by
              show (if j = y then Value.bool true else Value.bool (G j)) = Value.bool (if j = y then true else G j)
              split <;> rfl)
            have HX := Lib.hid (And.intro hN ((bel_tr HB.out C).setCell (p := ⟨g, y, none⟩) hg0 (.bool true)))
            have y0 : (0 : Int) ≤ (y : Int) := by omega
            have yx : (y : Int) < (xs.length : Int) := by omega
            clear C CF hN hR3
            go_wp2_with fail
            go_roundw
            case rel => exact ⟨t + 1, _, by omega, by go_num, HGN, HX.out.1, HX.out.2⟩
            case measure => simp [intOf]; omega
        · obtain rfl : t = 501 := by omega
          have HGN : Hid (MetTo xs (h + 1) 0 G) := met_next HG.out
          have HX := Lib.hid (And.intro hR hB)
          clear hR hB HG
          go_wp2_with fail
          go_roundw
          case rel => exact ⟨h + 1, G, by omega, by go_num, HGN, HX.out.1, HX.out.2⟩
          case measure => simp [intOf]; omega
    · obtain rfl : h = 24 := by omega
      have HAL := Lib.hid (met_all HF1.out)
      have HR0 := Lib.hid hR
      have HB1 := Lib.hid hB
      clear hR hB HF1 HF
      go_wp2_with fail
      go_loopw [9] (fun i wi => ∃ k : Nat, k ≤ xs.length ∧ i = .int .i64 k ∧ Below wr.heap.size wr wi) (fun i _ => xs.length - (intOf i).toNat)
      case atStart => exact ⟨0, Nat.zero_le _, rfl, Below.refl _ _⟩
      case round =>
        obtain ⟨k, hk, rfl, hB⟩ := hrel
        by_cases hlk : k < xs.length
        · have hc := World.rowIs.cell (World.rowIs.of_block HR0.out (hB.block g (World.rowIs.lt HR0.out))) hlk
          rw [HAL.out k] at hc
          have HAO := Lib.hid (ints_below HIo.out (bel_tr HB1.out hB))
          have KL := Lib.hid (fun (W : World) (q : Nat) (h : IsInts (W.drewN q) bo V) => Calls.quiet_of_same (w := W) (n := q) ((HL.out bo co (k : Int) (W.drewN q) h).mono (fun _ _ h => ⟨h.1, h.2.symm⟩)))
          rw [HDM.out k hlk] at KL
          have k0 : (0 : Int) ≤ (k : Int) := by omega
          have kx : (k : Int) < (xs.length : Int) := by omega
          generalize everB xs k = t at hc KL
          have HB := Lib.hid hB
          clear hB
          have hne : (t == !t) = false := by cases t <;> rfl
          cases t with
          | false =>
            go_wp2_with fail
            go_quiet (first | (go_at_call_of 40 (Value.slice bo V.length co); exact KL.out _ _ HAO.out))
            go_wp2
            go_roundw
            case rel => exact ⟨k + 1, by omega, by go_num, below_drewN HB.out _⟩
            case measure => simp [intOf]; omega
          | true =>
            go_wp2_with fail
            go_quiet (first | (go_at_call_of 40 (Value.slice bo V.length co); exact KL.out _ _ HAO.out))
            go_wp2
            go_roundw
            case rel => exact ⟨k + 1, by omega, by go_num, below_drewN HB.out _⟩
            case measure => simp [intOf]; omega
        · have HB2 := Lib.hid (bel_tr HB0.out (bel_tr HB1.out hB))
          clear hB
          go_wp2_with fail
          go_ret
          exact ⟨rfl, HB2.out⟩

set_option maxRecDepth 100000 in
theorem lifted (os : Os) (started : os.Started) (H : Type) (enc : TypeId × Value → H) :
    ReturnsInHanded {} Try.checked os 12 .any (Rows.fnDeadRulesSpec.pre6 enc Try.prog Try.f12 Rows.fnDeadRulesRow.domain false) (Rows.fnDeadRulesSpec.post enc Try.prog Try.f12 false true false false) := by
  refine returnsInHanded_of_change (C := Try.checked) own started (by kernel_rfl) Try.func12
    (ChangeSpec.witness6 (enc := enc) (C := Try.checked) false ⟨#[], #[.slice none 0 0], []⟩ 8 (by kernel_rfl) (by kernel_rfl) (by kernel_rfl) (by kernel_rfl)) ?_
  intro W base args ds gs before hval0 hW hcnd _
  have hval : ∀ (j : Nat) t v, Try.f12.params[j]? = some t → args[j]? = some v → Value.okWide Try.prog W .any base t v := hval0
  have hW' := hW
  obtain ⟨p, q, hA0, hV, rfl, hfz, hnd⟩ := hW
  have hA : DataW.TrodAll enc Try.prog W 0 (fun _ => true) true Try.f12.params.toList args.toList ds p := hA0
  rw [Try.params12] at hA hval
  obtain ⟨v0, vs0, e0, es0, p0, q0, hargs, rfl, rfl, h0, r0⟩ := trodAll_cons hA
  obtain ⟨rfl, rfl, rfl⟩ := trodAll_nil r0
  obtain rfl : args = #[v0] := by cases args; simp_all
  obtain ⟨rfl, rfl⟩ := trodVars_none hV
  have k0 := h0
  have lt0 : ∀ x ∈ p0, x.block < W.heap.size := by obtain ⟨m, hm⟩ := k0; exact DataW.trod_lt m _ _ _ hm
  obtain ⟨a0, len0, cap0, rfl⟩ := okWide_slice Try.underlying22 (hval 0 22 v0 rfl rfl)
  obtain ⟨z0, w0⟩ : ∃ zs, IsRow .u8 W a0 len0 cap0 zs := by
    obtain ⟨fuel, hf⟩ := h0
    rcases open_ints Try.underlying22 Try.underlying5 (by kernel_rfl) hf with ⟨hcs, _⟩ | ⟨x, l, c, zs, hcs, _, hl, hm, hz, _, hcell, hwz⟩
    · simp [Value.cells] at hcs
      obtain ⟨rfl, rfl, rfl⟩ := hcs
      exact ⟨[], .inl ⟨rfl, rfl, rfl, rfl⟩⟩
    · simp [Value.cells] at hcs
      obtain ⟨rfl, rfl, rfl⟩ := hcs
      exact ⟨zs, .inr ⟨_, rfl, hl, hm, by simpa using hz, hcell, hwz⟩⟩
  clear hA0 hval0
  refine (walk a0 len0 cap0 z0 W w0).mono fun e W' ⟨he, bel⟩ => ?_
  subst he
  exact ⟨_, rfl, _, _, _, [], _, [], hW', trodAll_mk1 (shut_bool Try.underlying4 _), (trodAll_cons_mk (Below.trod laidOut (by kernel_rfl) (of_decide_eq_true (by kernel_rfl)) k0 bel lt0) trodAll_mk0), rfl, bel.frame _, fun h => by cases h⟩

theorem over : Rows.fnDeadRulesRow.holds Try.pinned (OpenSpec.ofChange Rows.fnDeadRulesSpec) :=
  OpenClaim.holds_of_wide 12 Try.f12 rfl rfl rfl rfl rfl rfl rfl ⟨rfl, rfl, rfl, rfl, rfl⟩ rfl rfl rfl rfl rfl (by kernel_rfl) Try.func12 (by kernel_rfl)
    (of_decide_eq_true (by kernel_rfl)) (by unfold Func.isWrapper; first | (rw [if_pos (by decide +kernel)]; kernel_rfl) | (rw [if_neg (by decide +kernel)]; exact ⟨rfl, rfl⟩))
    (fun os started H enc _ => lifted os started H enc)

end Go.Proofs.Ytigapnbpgbfbhab.fnDeadRules
namespace Go.Proofs.Ytigapnbpgbfbhab
/-- the statement -/
theorem fnDeadRules_holds : Rows.FnDeadRulesSaid := fnDeadRules.over
end Go.Proofs.Ytigapnbpgbfbhab
