/- For every input the law answers true, and its argument reads afterwards as before: larger basins spill less. No condition. -/
import Derived.Test.YtfcgjiciobfncaaRows
import Derived.Test.YtfcgjiciobfncaaDrawBb
import Derived.Test.YtfcgjiciobfncaaEqI
import Derived.Test.YtfcgjiciobfncaaRunT
import Derived.Test.YtfcgjiciobfncaaBasQ
import Derived.WalkKit
import Derived.Deep.RegionHeld3
import Derived.Deep.DeepCutAuto
import Derived.Deep.QuietTactic
import Derived.BigQuiet
import Derived.ProofKit
import Derived.OpenShut
import Derived.ShutString
import Derived.ChangeOld
import Derived.Below
import Derived.Lib.SmallJoins
namespace Go.Proofs.Ytfcgjiciobfncaa.fnSpillsOf
open Go.ChangeShapes Go.WideShapes Go.ChangeAt Go.RowKit Go.Joins
open Go.ChangeMaps (open_string shut_string)
set_option linter.unusedVariables false
set_option linter.unusedSimpArgs false

theorem own : ownKnob Try.prog.godebug = none := by kernel_rfl
theorem laidOut : laidOutB Try.prog = true := by kernel_rfl

set_option maxRecDepth 100000 in
set_option maxHeartbeats 8000000 in
theorem walk (a0 : Option Addr) (len0 cap0 : Nat) (z0 : List Int) (w : World) (w0 : IsRow .u8 w a0 len0 cap0 z0) :
    Calls Try.prog 7 #[.slice a0 len0 cap0] w fun e w' => e = .returned (.bool true) ∧ Below w.heap.size w w' := by
  by_cases big : (1048576 : Int) < (len0 : Int)
  · go_enter Try.func7, Try.ntmps7
    go_wp2
    go_ret
    exact ⟨rfl, Below.refl _ _⟩
  go_enter Try.func7, Try.ntmps7
  go_wp2_with fail
  refine (drawSpills a0 len0 cap0 z0 _ w0).mono ?_
  rintro e u1 ⟨r, h, b1, c1, cs, b2, c2, ws, rfl, ⟨r0, r1, h0, h1⟩, ⟨lc, hcs, O1, p1⟩, ⟨lw, hws, O2, p2⟩, B⟩
  clear w0 big
  have I1 := O1.at_
  have I2 := O2.at_
  clear O1 O2
  have nc : cs.length ≤ 1048576 := by omega
  have nw : ws.length ≤ 1048576 := by omega
  have CI : Hid (∀ (x y : Int) (W : World), IsInts W b1 cs → IsInts W b2 ws → Calls Try.prog 29 #[.agg #[.int .i64 x, .int .i64 y], .slice b1 cs.length c1, .slice b2 ws.length c2] W (OutI W (spiL x y cs ws))) := fun x y W h1 h2 => iSpills x y b1 b2 c1 c2 cs ws W h1 h2 nc nw
  have CS : Hid (∀ (x y : Int) (W : World), IsInts W b1 cs → IsInts W b2 ws → Calls Try.prog 31 #[.agg #[.int .i64 x, .int .i64 y], .slice b1 cs.length c1, .slice b2 ws.length c2] W (OutI W (spiL x y cs ws))) := fun x y W h1 h2 => sSpills x y b1 b2 c1 c2 cs ws W h1 h2 nc nw
  have K := Blk.new u1 24 #[.int .i64 r, .int .i64 h]
  replace B := B.alloc B.size (.cells #[.int .i64 r, .int .i64 h] 24)
  replace I1 := ints_below I1 ((Below.refl _ u1).alloc (Nat.le_refl _) (.cells #[.int .i64 r, .int .i64 h] 24))
  replace I2 := ints_below I2 ((Below.refl _ u1).alloc (Nat.le_refl _) (.cells #[.int .i64 r, .int .i64 h] 24))
  clear hcs hws
  have C1 := fun W h1 h2 => CI.out r h W h1 h2
  have C2 := fun W h1 h2 => CS.out r h W h1 h2
  have wz : IntKind.i64.wrap (r + 10) = r + 10 := by rw [IntKind.wrap_i64]; omega
  have nR : (spiL r h cs ws).length ≤ 1048576 := by
    cases e : runBa r h cs ws with
    | false => rw [(runL_no e).2.1]; simp
    | true => rw [spi_len e]; exact nc
  by_cases hq : (spiL r h cs ws).length = 0 ∨ 20000 < r + 10
  · by_cases hz : (spiL r h cs ws).length = 0
    · have e1 : ((spiL r h cs ws).length : Int) = 0 := by omega
      have e0 : (((spiL r h cs ws).length : Int) == 0) = true := by rw [beq_iff_eq]; exact e1
      have e00 : ((spiL r h cs ws).length == 0) = true := by rw [beq_iff_eq]; exact hz
      clear hq hz e1
      generalize spiL r h cs ws = R at *
      have HC1 := Lib.hid C1
      have HC2 := Lib.hid C2
      clear C1 C2 CI CS
      obtain ⟨f0K, f1K, f2K, f3K, f4K⟩ := blk_two K
      go_wp2_with fail
      clear f0K f1K f2K f3K f4K
      refine (HC1.out _ I1 I2).mono ?_
      rintro e u2_ ⟨vO, rfl, O, C⟩
      obtain ⟨bO, cO, rfl, _⟩ := O.ints
      replace B := bel_tr B C
      replace I1 := ints_below I1 C
      replace I2 := ints_below I2 C
      replace K := K.next C
      clear C
      obtain ⟨f0K, f1K, f2K, f3K, f4K⟩ := blk_two K
      go_wp2_with fail
      clear f0K f1K f2K f3K f4K
      refine (HC2.out _ I1 I2).mono ?_
      rintro e u3_ ⟨vP, rfl, P, C⟩
      obtain ⟨bP, cP, rfl, _⟩ := P.ints
      replace B := bel_tr B C
      replace I1 := ints_below I1 C
      replace I2 := ints_below I2 C
      replace K := K.next C
      replace O := O.of_block C
      clear C
      obtain ⟨f0K, f1K, f2K, f3K, f4K⟩ := blk_two K
      go_wp2_with fail
      clear f0K f1K f2K f3K f4K
      refine (eqInts _ _ _ _ R _ O.at_ P.at_ nR).mono ?_
      rintro e u4_ ⟨rfl, C⟩
      replace B := bel_tr B C
      replace I1 := ints_below I1 C
      replace I2 := ints_below I2 C
      replace K := K.next C
      replace O := O.of_block C
      replace P := P.of_block C
      clear C
      obtain ⟨f0K, f1K, f2K, f3K, f4K⟩ := blk_two K
      go_wp2_with fail
      clear f0K f1K f2K f3K f4K
      clear P
      refine (HC2.out _ I1 I2).mono ?_
      rintro e u5_ ⟨vQ, rfl, Q, C⟩
      obtain ⟨bQ, cQ, rfl, _⟩ := Q.ints
      replace B := bel_tr B C
      replace I1 := ints_below I1 C
      replace I2 := ints_below I2 C
      replace K := K.next C
      replace O := O.of_block C
      clear C
      obtain ⟨f0K, f1K, f2K, f3K, f4K⟩ := blk_two K
      go_wp2_with fail
      clear f0K f1K f2K f3K f4K
      refine (eqInts _ _ _ _ R _ O.at_ Q.at_ nR).mono ?_
      rintro e u6_ ⟨rfl, C⟩
      replace B := bel_tr B C
      replace I1 := ints_below I1 C
      replace I2 := ints_below I2 C
      replace K := K.next C
      replace O := O.of_block C
      replace Q := Q.of_block C
      clear C
      obtain ⟨f0K, f1K, f2K, f3K, f4K⟩ := blk_two K
      go_wp2_with fail
      clear f0K f1K f2K f3K f4K
      go_ret
      exact ⟨rfl, B⟩
    · have hb := hq.resolve_left hz
      have e0 : (((spiL r h cs ws).length : Int) == 0) = false := by rw [beq_eq_false_iff_ne]; omega
      have e00 : ((spiL r h cs ws).length == 0) = false := by rw [beq_eq_false_iff_ne]; exact hz
      have e2 : decide (20000 < r + 10) = true := decide_eq_true hb
      clear hq hz
      generalize spiL r h cs ws = R at *
      have HC1 := Lib.hid C1
      have HC2 := Lib.hid C2
      clear C1 C2 CI CS
      obtain ⟨f0K, f1K, f2K, f3K, f4K⟩ := blk_two K
      go_wp2_with fail
      clear f0K f1K f2K f3K f4K
      refine (HC1.out _ I1 I2).mono ?_
      rintro e u2_ ⟨vO, rfl, O, C⟩
      obtain ⟨bO, cO, rfl, _⟩ := O.ints
      replace B := bel_tr B C
      replace I1 := ints_below I1 C
      replace I2 := ints_below I2 C
      replace K := K.next C
      clear C
      obtain ⟨f0K, f1K, f2K, f3K, f4K⟩ := blk_two K
      go_wp2_with fail
      clear f0K f1K f2K f3K f4K
      refine (HC2.out _ I1 I2).mono ?_
      rintro e u3_ ⟨vP, rfl, P, C⟩
      obtain ⟨bP, cP, rfl, _⟩ := P.ints
      replace B := bel_tr B C
      replace I1 := ints_below I1 C
      replace I2 := ints_below I2 C
      replace K := K.next C
      replace O := O.of_block C
      clear C
      obtain ⟨f0K, f1K, f2K, f3K, f4K⟩ := blk_two K
      go_wp2_with fail
      clear f0K f1K f2K f3K f4K
      refine (eqInts _ _ _ _ R _ O.at_ P.at_ nR).mono ?_
      rintro e u4_ ⟨rfl, C⟩
      replace B := bel_tr B C
      replace I1 := ints_below I1 C
      replace I2 := ints_below I2 C
      replace K := K.next C
      replace O := O.of_block C
      replace P := P.of_block C
      clear C
      obtain ⟨f0K, f1K, f2K, f3K, f4K⟩ := blk_two K
      go_wp2_with fail
      clear f0K f1K f2K f3K f4K
      clear P
      refine (HC2.out _ I1 I2).mono ?_
      rintro e u5_ ⟨vQ, rfl, Q, C⟩
      obtain ⟨bQ, cQ, rfl, _⟩ := Q.ints
      replace B := bel_tr B C
      replace I1 := ints_below I1 C
      replace I2 := ints_below I2 C
      replace K := K.next C
      replace O := O.of_block C
      clear C
      obtain ⟨f0K, f1K, f2K, f3K, f4K⟩ := blk_two K
      go_wp2_with fail
      clear f0K f1K f2K f3K f4K
      refine (eqInts _ _ _ _ R _ O.at_ Q.at_ nR).mono ?_
      rintro e u6_ ⟨rfl, C⟩
      replace B := bel_tr B C
      replace I1 := ints_below I1 C
      replace I2 := ints_below I2 C
      replace K := K.next C
      replace O := O.of_block C
      replace Q := Q.of_block C
      clear C
      obtain ⟨f0K, f1K, f2K, f3K, f4K⟩ := blk_two K
      go_wp2_with fail
      clear f0K f1K f2K f3K f4K
      go_ret
      exact ⟨rfl, B⟩
  have hz : ¬ (spiL r h cs ws).length = 0 := fun c => hq (.inl c)
  have hb : ¬ 20000 < r + 10 := fun c => hq (.inr c)
  have hrun : runBa r h cs ws = true := by
    cases e : runBa r h cs ws with
    | true => rfl
    | false => exact absurd (by rw [(runL_no e).2.1]; rfl) hz
  obtain ⟨hr2, hle⟩ := spi_less hrun (by omega)
  have hl1 := spi_len hrun
  have hl2 := spi_len hr2
  have C3 := fun W h1 h2 => CI.out (r + 10) h W h1 h2
  have t1 := spi_vfl hrun
  have t2 := spi_vfl hr2
  have T1 := Lib.hid (fun z m => (by have := t1 z m; omega : -1000000 ≤ z ∧ z ≤ 1000000))
  have T2 := Lib.hid (fun z m => (by have := t2 z m; omega : -1000000 ≤ z ∧ z ≤ 1000000))
  have e0 : (((spiL r h cs ws).length : Int) == 0) = false := by rw [beq_eq_false_iff_ne]; omega
  have e00 : ((spiL r h cs ws).length == 0) = false := by rw [beq_eq_false_iff_ne]; exact hz
  have e2 : decide (20000 < r + 10) = false := decide_eq_false hb
  have e3 : decide ((spiL (r + 10) h cs ws).sum ≤ (spiL r h cs ws).sum) = true := decide_eq_true hle
  have e4 : (((spiL r h cs ws).length : Int) == (cs.length : Int)) = true := by rw [hl1]; simp
  have e44 : ((spiL r h cs ws).length == cs.length) = true := by rw [hl1]; simp
  clear hrun hr2 hq hz hb t1 t2
  have nR2 : (spiL (r + 10) h cs ws).length ≤ 1048576 := by rw [hl2]; exact nc
  have HC1 := Lib.hid C1
  have HC2 := Lib.hid C2
  have HC3 := Lib.hid C3
  clear C1 C2 C3 CI CS hl1 hl2
  generalize spiL r h cs ws = R at *
  generalize spiL (r + 10) h cs ws = R2 at *
  obtain ⟨f0K, f1K, f2K, f3K, f4K⟩ := blk_two K
  go_wp2_with fail
  clear f0K f1K f2K f3K f4K
  refine (HC1.out _ I1 I2).mono ?_
  rintro e u2_ ⟨vO, rfl, O, C⟩
  obtain ⟨bO, cO, rfl, _⟩ := O.ints
  replace B := bel_tr B C
  replace I1 := ints_below I1 C
  replace I2 := ints_below I2 C
  replace K := K.next C
  clear C
  obtain ⟨f0K, f1K, f2K, f3K, f4K⟩ := blk_two K
  go_wp2_with fail
  clear f0K f1K f2K f3K f4K
  refine (HC2.out _ I1 I2).mono ?_
  rintro e u3_ ⟨vP, rfl, P, C⟩
  obtain ⟨bP, cP, rfl, _⟩ := P.ints
  replace B := bel_tr B C
  replace I1 := ints_below I1 C
  replace I2 := ints_below I2 C
  replace K := K.next C
  replace O := O.of_block C
  clear C
  obtain ⟨f0K, f1K, f2K, f3K, f4K⟩ := blk_two K
  go_wp2_with fail
  clear f0K f1K f2K f3K f4K
  refine (eqInts _ _ _ _ R _ O.at_ P.at_ nR).mono ?_
  rintro e u4_ ⟨rfl, C⟩
  replace B := bel_tr B C
  replace I1 := ints_below I1 C
  replace I2 := ints_below I2 C
  replace K := K.next C
  replace O := O.of_block C
  replace P := P.of_block C
  clear C
  obtain ⟨f0K, f1K, f2K, f3K, f4K⟩ := blk_two K
  go_wp2_with fail
  clear f0K f1K f2K f3K f4K
  clear P
  refine (HC3.out _ I1 I2).mono ?_
  rintro e u5_ ⟨vQ, rfl, Q, C⟩
  obtain ⟨bQ, cQ, rfl, _⟩ := Q.ints
  replace B := bel_tr B C
  replace I1 := ints_below I1 C
  replace I2 := ints_below I2 C
  replace K := K.next C
  replace O := O.of_block C
  clear C
  obtain ⟨f0K, f1K, f2K, f3K, f4K⟩ := blk_two K
  go_wp2_with fail
  clear f0K f1K f2K f3K f4K
  refine (ltotal _ _ R2 _ Q.at_ nR2 T2.out).mono ?_
  rintro e w' ⟨rfl, rfl⟩
  obtain ⟨f0K, f1K, f2K, f3K, f4K⟩ := blk_two K
  go_wp2_with fail
  clear f0K f1K f2K f3K f4K
  refine (ltotal _ _ R _ O.at_ nR T1.out).mono ?_
  rintro e w' ⟨rfl, rfl⟩
  obtain ⟨f0K, f1K, f2K, f3K, f4K⟩ := blk_two K
  go_wp2_with fail
  clear f0K f1K f2K f3K f4K
  go_ret
  exact ⟨rfl, B⟩

set_option maxRecDepth 100000 in
theorem lifted (os : Os) (started : os.Started) (H : Type) (enc : TypeId × Value → H) :
    ReturnsInHanded {} Try.checked os 7 .any (Rows.fnSpillsOfSpec.pre6 enc Try.prog Try.f7 Rows.fnSpillsOfRow.domain false) (Rows.fnSpillsOfSpec.post enc Try.prog Try.f7 false true false false) := by
  refine returnsInHanded_of_change (C := Try.checked) own started (by kernel_rfl) Try.func7
    (ChangeSpec.witness6 (enc := enc) (C := Try.checked) false ⟨#[], #[.slice none 0 0], []⟩ 8 (by kernel_rfl) (by kernel_rfl) (by kernel_rfl) (by kernel_rfl)) ?_
  intro W base args ds gs before hval0 hW hcnd _
  have hval : ∀ (j : Nat) t v, Try.f7.params[j]? = some t → args[j]? = some v → Value.okWide Try.prog W .any base t v := hval0
  have hW' := hW
  obtain ⟨p, q, hA0, hV, rfl, hfz, hnd⟩ := hW
  have hA : DataW.TrodAll enc Try.prog W 0 (fun _ => true) true Try.f7.params.toList args.toList ds p := hA0
  rw [Try.params7] at hA hval
  obtain ⟨v0, vs0, e0, es0, p0, q0, hargs, rfl, rfl, h0, r0⟩ := trodAll_cons hA
  obtain ⟨rfl, rfl, rfl⟩ := trodAll_nil r0
  obtain rfl : args = #[v0] := by cases args; simp_all
  obtain ⟨rfl, rfl⟩ := trodVars_none hV
  have k0 := h0
  have lt0 : ∀ x ∈ p0, x.block < W.heap.size := by obtain ⟨m, hm⟩ := k0; exact DataW.trod_lt m _ _ _ hm
  obtain ⟨a0, len0, cap0, rfl⟩ := okWide_slice Try.underlying22 (hval 0 22 v0 rfl rfl)
  obtain ⟨z0, w0⟩ : ∃ zs, IsRow .u8 W a0 len0 cap0 zs := by
    obtain ⟨fuel, hf⟩ := h0
    rcases open_ints Try.underlying22 Try.underlying5 (by kernel_rfl) hf with ⟨hcs, _⟩ | ⟨x, l, c, zs, hcs, _, hl, hm, hz, _, hcell, hwz⟩
    · simp [Value.cells] at hcs
      obtain ⟨rfl, rfl, rfl⟩ := hcs
      exact ⟨[], .inl ⟨rfl, rfl, rfl, rfl⟩⟩
    · simp [Value.cells] at hcs
      obtain ⟨rfl, rfl, rfl⟩ := hcs
      exact ⟨zs, .inr ⟨_, rfl, hl, hm, by simpa using hz, hcell, hwz⟩⟩
  clear hA0 hval0
  refine (walk a0 len0 cap0 z0 W w0).mono fun e W' ⟨he, bel⟩ => ?_
  subst he
  exact ⟨_, rfl, _, _, _, [], _, [], hW', trodAll_mk1 (shut_bool Try.underlying4 _), (trodAll_cons_mk (Below.trod laidOut (by kernel_rfl) (of_decide_eq_true (by kernel_rfl)) k0 bel lt0) trodAll_mk0), rfl, bel.frame _, fun h => by cases h⟩

theorem over : Rows.fnSpillsOfRow.holds Try.pinned (OpenSpec.ofChange Rows.fnSpillsOfSpec) :=
  OpenClaim.holds_of_wide 7 Try.f7 rfl rfl rfl rfl rfl rfl rfl ⟨rfl, rfl, rfl, rfl, rfl⟩ rfl rfl rfl rfl rfl (by kernel_rfl) Try.func7 (by kernel_rfl)
    (of_decide_eq_true (by kernel_rfl)) (by unfold Func.isWrapper; first | (rw [if_pos (by decide +kernel)]; kernel_rfl) | (rw [if_neg (by decide +kernel)]; exact ⟨rfl, rfl⟩))
    (fun os started H enc _ => lifted os started H enc)

end Go.Proofs.Ytfcgjiciobfncaa.fnSpillsOf
namespace Go.Proofs.Ytfcgjiciobfncaa
/-- the statement -/
theorem fnSpillsOf_holds : Rows.FnSpillsOfSaid := fnSpillsOf.over
end Go.Proofs.Ytfcgjiciobfncaa
