/- For every input the law answers true, and its argument reads afterwards as before: no water is made in a basin. No condition. -/
import Derived.Test.YtfcgjiciobfncaaRows
import Derived.Test.YtfcgjiciobfncaaDrawBb
import Derived.Test.YtfcgjiciobfncaaEqI
import Derived.Test.YtfcgjiciobfncaaStepS
import Derived.Test.YtfcgjiciobfncaaRunT
import Derived.WalkKit
import Derived.Deep.RegionHeld3
import Derived.Deep.DeepCutAuto
import Derived.Deep.QuietTactic
import Derived.BigQuiet
import Derived.ProofKit
import Derived.OpenShut
import Derived.ShutString
import Derived.ChangeOld
import Derived.Below
import Derived.Lib.SmallJoins
namespace Go.Proofs.Ytfcgjiciobfncaa.fnStepBasin
open Go.ChangeShapes Go.WideShapes Go.ChangeAt Go.RowKit Go.Joins
open Go.ChangeMaps (open_string shut_string)
set_option linter.unusedVariables false
set_option linter.unusedSimpArgs false

theorem own : ownKnob Try.prog.godebug = none := by kernel_rfl
theorem laidOut : laidOutB Try.prog = true := by kernel_rfl

set_option maxRecDepth 100000 in
set_option maxHeartbeats 8000000 in
theorem walk (a0 : Option Addr) (len0 cap0 : Nat) (z0 : List Int) (w : World) (w0 : IsRow .u8 w a0 len0 cap0 z0) :
    Calls Try.prog 4 #[.slice a0 len0 cap0] w fun e w' => e = .returned (.bool true) ∧ Below w.heap.size w w' := by
  by_cases big : (1048576 : Int) < (len0 : Int)
  · go_enter Try.func4, Try.ntmps4
    go_wp2
    go_ret
    exact ⟨rfl, Below.refl _ _⟩
  go_enter Try.func4, Try.ntmps4
  go_wp2_with fail
  refine (drawStep a0 len0 cap0 z0 _ w0).mono ?_
  rintro e u1 ⟨r, h, c, q, rfl, r0, r1, h0, h1, c0, c1, q0, q1, B⟩
  clear w0 big
  have K := Blk.new u1 24 #[.int .i64 r, .int .i64 h]
  replace B := B.alloc B.size (.cells #[.int .i64 r, .int .i64 h] 24)
  have CI := fun W => iStep r h c q W
  have CS := fun W => sStep r h c q W
  have CV := fun W => iVB r h W
  cases hv : vbB r h with
  | false =>
    rw [hv] at CV
    obtain ⟨x, y, g, s, hV⟩ := stV_form r h c q
    rw [hV] at CI CS
    clear hV
    clear hv
    obtain ⟨f0K, f1K, f2K, f3K, f4K⟩ := blk_two K
    go_wp2_with fail
    clear f0K f1K f2K f3K f4K
    refine (CI _).mono ?_
    rintro e u2_ ⟨rfl, C⟩
    replace B := bel_tr B C
    replace K := K.next C
    clear C
    replace B := B.alloc B.size (.cells #[.int .i64 x, .int .i64 y] 24)
    replace K := K.alloc (.cells #[.int .i64 x, .int .i64 y] 24)
    have K1 := Blk.new u2_ 24 #[.int .i64 x, .int .i64 y]
    obtain ⟨f0K, f1K, f2K, f3K, f4K⟩ := blk_two K
    obtain ⟨f0K1, f1K1, f2K1, f3K1, f4K1⟩ := blk_two K1
    go_wp2_with fail
    clear f0K f1K f2K f3K f4K f0K1 f1K1 f2K1 f3K1 f4K1
    refine (CS _).mono ?_
    rintro e u3_ ⟨rfl, C⟩
    replace B := bel_tr B C
    replace K := K.next C
    replace K1 := K1.next C
    clear C
    replace B := B.alloc B.size (.cells #[.int .i64 x, .int .i64 y] 24)
    replace K := K.alloc (.cells #[.int .i64 x, .int .i64 y] 24)
    replace K1 := K1.alloc (.cells #[.int .i64 x, .int .i64 y] 24)
    have K2 := Blk.new u3_ 24 #[.int .i64 x, .int .i64 y]
    obtain ⟨f0K, f1K, f2K, f3K, f4K⟩ := blk_two K
    obtain ⟨f0K1, f1K1, f2K1, f3K1, f4K1⟩ := blk_two K1
    obtain ⟨f0K2, f1K2, f2K2, f3K2, f4K2⟩ := blk_two K2
    go_wp2_with fail
    clear f0K f1K f2K f3K f4K f0K1 f1K1 f2K1 f3K1 f4K1 f0K2 f1K2 f2K2 f3K2 f4K2
    refine (CV _).mono ?_
    rintro e u4_ ⟨rfl, C⟩
    replace B := bel_tr B C
    replace K := K.next C
    replace K1 := K1.next C
    replace K2 := K2.next C
    clear C
    obtain ⟨f0K, f1K, f2K, f3K, f4K⟩ := blk_two K
    obtain ⟨f0K1, f1K1, f2K1, f3K1, f4K1⟩ := blk_two K1
    obtain ⟨f0K2, f1K2, f2K2, f3K2, f4K2⟩ := blk_two K2
    go_wp2_with fail
    clear f0K f1K f2K f3K f4K f0K1 f1K1 f2K1 f3K1 f4K1 f0K2 f1K2 f2K2 f3K2 f4K2
    go_ret
    exact ⟨rfl, B⟩
  | true =>
  rw [hv] at CV
  by_cases hc : c < 0
  · obtain ⟨x, y, g, s, hV⟩ := stV_form r h c q
    rw [hV] at CI CS
    clear hV
    have e1 : decide (c < 0) = true := decide_eq_true hc
    clear hv hc
    obtain ⟨f0K, f1K, f2K, f3K, f4K⟩ := blk_two K
    go_wp2_with fail
    clear f0K f1K f2K f3K f4K
    refine (CI _).mono ?_
    rintro e u2_ ⟨rfl, C⟩
    replace B := bel_tr B C
    replace K := K.next C
    clear C
    replace B := B.alloc B.size (.cells #[.int .i64 x, .int .i64 y] 24)
    replace K := K.alloc (.cells #[.int .i64 x, .int .i64 y] 24)
    have K1 := Blk.new u2_ 24 #[.int .i64 x, .int .i64 y]
    obtain ⟨f0K, f1K, f2K, f3K, f4K⟩ := blk_two K
    obtain ⟨f0K1, f1K1, f2K1, f3K1, f4K1⟩ := blk_two K1
    go_wp2_with fail
    clear f0K f1K f2K f3K f4K f0K1 f1K1 f2K1 f3K1 f4K1
    refine (CS _).mono ?_
    rintro e u3_ ⟨rfl, C⟩
    replace B := bel_tr B C
    replace K := K.next C
    replace K1 := K1.next C
    clear C
    replace B := B.alloc B.size (.cells #[.int .i64 x, .int .i64 y] 24)
    replace K := K.alloc (.cells #[.int .i64 x, .int .i64 y] 24)
    replace K1 := K1.alloc (.cells #[.int .i64 x, .int .i64 y] 24)
    have K2 := Blk.new u3_ 24 #[.int .i64 x, .int .i64 y]
    obtain ⟨f0K, f1K, f2K, f3K, f4K⟩ := blk_two K
    obtain ⟨f0K1, f1K1, f2K1, f3K1, f4K1⟩ := blk_two K1
    obtain ⟨f0K2, f1K2, f2K2, f3K2, f4K2⟩ := blk_two K2
    go_wp2_with fail
    clear f0K f1K f2K f3K f4K f0K1 f1K1 f2K1 f3K1 f4K1 f0K2 f1K2 f2K2 f3K2 f4K2
    refine (CV _).mono ?_
    rintro e u4_ ⟨rfl, C⟩
    replace B := bel_tr B C
    replace K := K.next C
    replace K1 := K1.next C
    replace K2 := K2.next C
    clear C
    obtain ⟨f0K, f1K, f2K, f3K, f4K⟩ := blk_two K
    obtain ⟨f0K1, f1K1, f2K1, f3K1, f4K1⟩ := blk_two K1
    obtain ⟨f0K2, f1K2, f2K2, f3K2, f4K2⟩ := blk_two K2
    go_wp2_with fail
    clear f0K f1K f2K f3K f4K f0K1 f1K1 f2K1 f3K1 f4K1 f0K2 f1K2 f2K2 f3K2 f4K2
    go_ret
    exact ⟨rfl, B⟩
  have n_c_0 : ¬ c < 0 := hc
  clear hc
  by_cases hc : 500 < c
  · obtain ⟨x, y, g, s, hV⟩ := stV_form r h c q
    rw [hV] at CI CS
    clear hV
    have e1 : decide (c < 0) = false := decide_eq_false (by omega)
    have e2 : decide (500 < c) = true := decide_eq_true hc
    clear hv hc
    obtain ⟨f0K, f1K, f2K, f3K, f4K⟩ := blk_two K
    go_wp2_with fail
    clear f0K f1K f2K f3K f4K
    refine (CI _).mono ?_
    rintro e u2_ ⟨rfl, C⟩
    replace B := bel_tr B C
    replace K := K.next C
    clear C
    replace B := B.alloc B.size (.cells #[.int .i64 x, .int .i64 y] 24)
    replace K := K.alloc (.cells #[.int .i64 x, .int .i64 y] 24)
    have K1 := Blk.new u2_ 24 #[.int .i64 x, .int .i64 y]
    obtain ⟨f0K, f1K, f2K, f3K, f4K⟩ := blk_two K
    obtain ⟨f0K1, f1K1, f2K1, f3K1, f4K1⟩ := blk_two K1
    go_wp2_with fail
    clear f0K f1K f2K f3K f4K f0K1 f1K1 f2K1 f3K1 f4K1
    refine (CS _).mono ?_
    rintro e u3_ ⟨rfl, C⟩
    replace B := bel_tr B C
    replace K := K.next C
    replace K1 := K1.next C
    clear C
    replace B := B.alloc B.size (.cells #[.int .i64 x, .int .i64 y] 24)
    replace K := K.alloc (.cells #[.int .i64 x, .int .i64 y] 24)
    replace K1 := K1.alloc (.cells #[.int .i64 x, .int .i64 y] 24)
    have K2 := Blk.new u3_ 24 #[.int .i64 x, .int .i64 y]
    obtain ⟨f0K, f1K, f2K, f3K, f4K⟩ := blk_two K
    obtain ⟨f0K1, f1K1, f2K1, f3K1, f4K1⟩ := blk_two K1
    obtain ⟨f0K2, f1K2, f2K2, f3K2, f4K2⟩ := blk_two K2
    go_wp2_with fail
    clear f0K f1K f2K f3K f4K f0K1 f1K1 f2K1 f3K1 f4K1 f0K2 f1K2 f2K2 f3K2 f4K2
    refine (CV _).mono ?_
    rintro e u4_ ⟨rfl, C⟩
    replace B := bel_tr B C
    replace K := K.next C
    replace K1 := K1.next C
    replace K2 := K2.next C
    clear C
    obtain ⟨f0K, f1K, f2K, f3K, f4K⟩ := blk_two K
    obtain ⟨f0K1, f1K1, f2K1, f3K1, f4K1⟩ := blk_two K1
    obtain ⟨f0K2, f1K2, f2K2, f3K2, f4K2⟩ := blk_two K2
    go_wp2_with fail
    clear f0K f1K f2K f3K f4K f0K1 f1K1 f2K1 f3K1 f4K1 f0K2 f1K2 f2K2 f3K2 f4K2
    go_ret
    exact ⟨rfl, B⟩
  have n_500_c : ¬ 500 < c := hc
  clear hc
  by_cases hc : q < 0
  · obtain ⟨x, y, g, s, hV⟩ := stV_form r h c q
    rw [hV] at CI CS
    clear hV
    have e1 : decide (c < 0) = false := decide_eq_false (by omega)
    have e2 : decide (500 < c) = false := decide_eq_false (by omega)
    have e3 : decide (q < 0) = true := decide_eq_true hc
    clear hv hc
    obtain ⟨f0K, f1K, f2K, f3K, f4K⟩ := blk_two K
    go_wp2_with fail
    clear f0K f1K f2K f3K f4K
    refine (CI _).mono ?_
    rintro e u2_ ⟨rfl, C⟩
    replace B := bel_tr B C
    replace K := K.next C
    clear C
    replace B := B.alloc B.size (.cells #[.int .i64 x, .int .i64 y] 24)
    replace K := K.alloc (.cells #[.int .i64 x, .int .i64 y] 24)
    have K1 := Blk.new u2_ 24 #[.int .i64 x, .int .i64 y]
    obtain ⟨f0K, f1K, f2K, f3K, f4K⟩ := blk_two K
    obtain ⟨f0K1, f1K1, f2K1, f3K1, f4K1⟩ := blk_two K1
    go_wp2_with fail
    clear f0K f1K f2K f3K f4K f0K1 f1K1 f2K1 f3K1 f4K1
    refine (CS _).mono ?_
    rintro e u3_ ⟨rfl, C⟩
    replace B := bel_tr B C
    replace K := K.next C
    replace K1 := K1.next C
    clear C
    replace B := B.alloc B.size (.cells #[.int .i64 x, .int .i64 y] 24)
    replace K := K.alloc (.cells #[.int .i64 x, .int .i64 y] 24)
    replace K1 := K1.alloc (.cells #[.int .i64 x, .int .i64 y] 24)
    have K2 := Blk.new u3_ 24 #[.int .i64 x, .int .i64 y]
    obtain ⟨f0K, f1K, f2K, f3K, f4K⟩ := blk_two K
    obtain ⟨f0K1, f1K1, f2K1, f3K1, f4K1⟩ := blk_two K1
    obtain ⟨f0K2, f1K2, f2K2, f3K2, f4K2⟩ := blk_two K2
    go_wp2_with fail
    clear f0K f1K f2K f3K f4K f0K1 f1K1 f2K1 f3K1 f4K1 f0K2 f1K2 f2K2 f3K2 f4K2
    refine (CV _).mono ?_
    rintro e u4_ ⟨rfl, C⟩
    replace B := bel_tr B C
    replace K := K.next C
    replace K1 := K1.next C
    replace K2 := K2.next C
    clear C
    obtain ⟨f0K, f1K, f2K, f3K, f4K⟩ := blk_two K
    obtain ⟨f0K1, f1K1, f2K1, f3K1, f4K1⟩ := blk_two K1
    obtain ⟨f0K2, f1K2, f2K2, f3K2, f4K2⟩ := blk_two K2
    go_wp2_with fail
    clear f0K f1K f2K f3K f4K f0K1 f1K1 f2K1 f3K1 f4K1 f0K2 f1K2 f2K2 f3K2 f4K2
    go_ret
    exact ⟨rfl, B⟩
  have n_q_0 : ¬ q < 0 := hc
  clear hc
  by_cases hc : 500 < q
  · obtain ⟨x, y, g, s, hV⟩ := stV_form r h c q
    rw [hV] at CI CS
    clear hV
    have e1 : decide (c < 0) = false := decide_eq_false (by omega)
    have e2 : decide (500 < c) = false := decide_eq_false (by omega)
    have e3 : decide (q < 0) = false := decide_eq_false (by omega)
    have e4 : decide (500 < q) = true := decide_eq_true hc
    clear hv hc
    obtain ⟨f0K, f1K, f2K, f3K, f4K⟩ := blk_two K
    go_wp2_with fail
    clear f0K f1K f2K f3K f4K
    refine (CI _).mono ?_
    rintro e u2_ ⟨rfl, C⟩
    replace B := bel_tr B C
    replace K := K.next C
    clear C
    replace B := B.alloc B.size (.cells #[.int .i64 x, .int .i64 y] 24)
    replace K := K.alloc (.cells #[.int .i64 x, .int .i64 y] 24)
    have K1 := Blk.new u2_ 24 #[.int .i64 x, .int .i64 y]
    obtain ⟨f0K, f1K, f2K, f3K, f4K⟩ := blk_two K
    obtain ⟨f0K1, f1K1, f2K1, f3K1, f4K1⟩ := blk_two K1
    go_wp2_with fail
    clear f0K f1K f2K f3K f4K f0K1 f1K1 f2K1 f3K1 f4K1
    refine (CS _).mono ?_
    rintro e u3_ ⟨rfl, C⟩
    replace B := bel_tr B C
    replace K := K.next C
    replace K1 := K1.next C
    clear C
    replace B := B.alloc B.size (.cells #[.int .i64 x, .int .i64 y] 24)
    replace K := K.alloc (.cells #[.int .i64 x, .int .i64 y] 24)
    replace K1 := K1.alloc (.cells #[.int .i64 x, .int .i64 y] 24)
    have K2 := Blk.new u3_ 24 #[.int .i64 x, .int .i64 y]
    obtain ⟨f0K, f1K, f2K, f3K, f4K⟩ := blk_two K
    obtain ⟨f0K1, f1K1, f2K1, f3K1, f4K1⟩ := blk_two K1
    obtain ⟨f0K2, f1K2, f2K2, f3K2, f4K2⟩ := blk_two K2
    go_wp2_with fail
    clear f0K f1K f2K f3K f4K f0K1 f1K1 f2K1 f3K1 f4K1 f0K2 f1K2 f2K2 f3K2 f4K2
    refine (CV _).mono ?_
    rintro e u4_ ⟨rfl, C⟩
    replace B := bel_tr B C
    replace K := K.next C
    replace K1 := K1.next C
    replace K2 := K2.next C
    clear C
    obtain ⟨f0K, f1K, f2K, f3K, f4K⟩ := blk_two K
    obtain ⟨f0K1, f1K1, f2K1, f3K1, f4K1⟩ := blk_two K1
    obtain ⟨f0K2, f1K2, f2K2, f3K2, f4K2⟩ := blk_two K2
    go_wp2_with fail
    clear f0K f1K f2K f3K f4K f0K1 f1K1 f2K1 f3K1 f4K1 f0K2 f1K2 f2K2 f3K2 f4K2
    go_ret
    exact ⟨rfl, B⟩
  have n_500_q : ¬ 500 < q := hc
  clear hc
  have e1 : decide (c < 0) = false := decide_eq_false (by omega)
  have e2 : decide (500 < c) = false := decide_eq_false (by omega)
  have e3 : decide (q < 0) = false := decide_eq_false (by omega)
  have e4 : decide (500 < q) = false := decide_eq_false (by omega)
  obtain ⟨a1, a2, a3, a4⟩ := vb_iff.1 hv
  have hsv := stV_yes (stB_yes hv (by omega : 0 ≤ c ∧ c ≤ 500) (by omega : 0 ≤ q ∧ q ≤ 500))
  rw [hsv] at CI CS
  have sd := step_bd (room := r) (held := h) ⟨a3, a4⟩ (by omega : 0 ≤ c) (by omega : 0 ≤ q)
  have f1 : stepH r h c q + giveH h c q + spillH r h c q = h + c := by unfold spillH; omega
  have f2 : spillH r h c q = 0 ∨ stepH r h c q = r := by unfold spillH stepH giveH; omega
  have f3 : giveH h c q = q ∨ stepH r h c q = 0 := by unfold stepH giveH; omega
  have CO := fun W => iVB r (stepH r h c q) W
  rw [vb_iff.2 ⟨a1, a2, sd.1, sd.2.1⟩] at CO
  clear hsv hv
  generalize stepH r h c q = s_ at *
  generalize giveH h c q = g_ at *
  generalize spillH r h c q = p_ at *
  have w1_ : IntKind.i64.wrap (s_ + g_) = s_ + g_ := by rw [IntKind.wrap_i64]; omega
  have w2_ : IntKind.i64.wrap (s_ + g_ + p_) = h + c := by rw [IntKind.wrap_i64]; omega
  have w3_ : IntKind.i64.wrap (h + c) = h + c := by rw [IntKind.wrap_i64]; omega
  have d1 : decide (g_ ≤ q) = true := decide_eq_true (by omega)
  clear f1
  have F2 := Lib.hid f2
  have F3 := Lib.hid f3
  clear f2 f3
  by_cases hp : p_ = 0
  · by_cases hg : g_ = q
    · have p1 : (p_ == 0) = true := by rw [beq_iff_eq]; exact hp
      have g1 : (g_ == q) = true := by rw [beq_iff_eq]; exact hg
      clear hp hg
      obtain ⟨f0K, f1K, f2K, f3K, f4K⟩ := blk_two K
      go_wp2_with fail
      clear f0K f1K f2K f3K f4K
      refine (CI _).mono ?_
      rintro e u2_ ⟨rfl, C⟩
      replace B := bel_tr B C
      replace K := K.next C
      clear C
      replace B := B.alloc B.size (.cells #[.int .i64 r, .int .i64 s_] 24)
      replace K := K.alloc (.cells #[.int .i64 r, .int .i64 s_] 24)
      have K1 := Blk.new u2_ 24 #[.int .i64 r, .int .i64 s_]
      obtain ⟨f0K, f1K, f2K, f3K, f4K⟩ := blk_two K
      obtain ⟨f0K1, f1K1, f2K1, f3K1, f4K1⟩ := blk_two K1
      go_wp2_with fail
      clear f0K f1K f2K f3K f4K f0K1 f1K1 f2K1 f3K1 f4K1
      refine (CS _).mono ?_
      rintro e u3_ ⟨rfl, C⟩
      replace B := bel_tr B C
      replace K := K.next C
      replace K1 := K1.next C
      clear C
      replace B := B.alloc B.size (.cells #[.int .i64 r, .int .i64 s_] 24)
      replace K := K.alloc (.cells #[.int .i64 r, .int .i64 s_] 24)
      replace K1 := K1.alloc (.cells #[.int .i64 r, .int .i64 s_] 24)
      have K2 := Blk.new u3_ 24 #[.int .i64 r, .int .i64 s_]
      obtain ⟨f0K, f1K, f2K, f3K, f4K⟩ := blk_two K
      obtain ⟨f0K1, f1K1, f2K1, f3K1, f4K1⟩ := blk_two K1
      obtain ⟨f0K2, f1K2, f2K2, f3K2, f4K2⟩ := blk_two K2
      go_wp2_with fail
      clear f0K f1K f2K f3K f4K f0K1 f1K1 f2K1 f3K1 f4K1 f0K2 f1K2 f2K2 f3K2 f4K2
      refine (CV _).mono ?_
      rintro e u4_ ⟨rfl, C⟩
      replace B := bel_tr B C
      replace K := K.next C
      replace K1 := K1.next C
      replace K2 := K2.next C
      clear C
      obtain ⟨f0K, f1K, f2K, f3K, f4K⟩ := blk_two K
      obtain ⟨f0K1, f1K1, f2K1, f3K1, f4K1⟩ := blk_two K1
      obtain ⟨f0K2, f1K2, f2K2, f3K2, f4K2⟩ := blk_two K2
      go_wp2_with fail
      clear f0K f1K f2K f3K f4K f0K1 f1K1 f2K1 f3K1 f4K1 f0K2 f1K2 f2K2 f3K2 f4K2
      refine (CO _).mono ?_
      rintro e u5_ ⟨rfl, C⟩
      replace B := bel_tr B C
      replace K := K.next C
      replace K1 := K1.next C
      replace K2 := K2.next C
      clear C
      obtain ⟨f0K, f1K, f2K, f3K, f4K⟩ := blk_two K
      obtain ⟨f0K1, f1K1, f2K1, f3K1, f4K1⟩ := blk_two K1
      obtain ⟨f0K2, f1K2, f2K2, f3K2, f4K2⟩ := blk_two K2
      go_wp2_with fail
      clear f0K f1K f2K f3K f4K f0K1 f1K1 f2K1 f3K1 f4K1 f0K2 f1K2 f2K2 f3K2 f4K2
      go_ret
      exact ⟨rfl, B⟩
    · have p1 : (p_ == 0) = true := by rw [beq_iff_eq]; exact hp
      have g1 : (g_ == q) = false := by rw [beq_eq_false_iff_ne]; exact hg
      have g2 : (s_ == 0) = true := by rw [beq_iff_eq]; exact F3.out.resolve_left hg
      clear hp hg
      obtain ⟨f0K, f1K, f2K, f3K, f4K⟩ := blk_two K
      go_wp2_with fail
      clear f0K f1K f2K f3K f4K
      refine (CI _).mono ?_
      rintro e u2_ ⟨rfl, C⟩
      replace B := bel_tr B C
      replace K := K.next C
      clear C
      replace B := B.alloc B.size (.cells #[.int .i64 r, .int .i64 s_] 24)
      replace K := K.alloc (.cells #[.int .i64 r, .int .i64 s_] 24)
      have K1 := Blk.new u2_ 24 #[.int .i64 r, .int .i64 s_]
      obtain ⟨f0K, f1K, f2K, f3K, f4K⟩ := blk_two K
      obtain ⟨f0K1, f1K1, f2K1, f3K1, f4K1⟩ := blk_two K1
      go_wp2_with fail
      clear f0K f1K f2K f3K f4K f0K1 f1K1 f2K1 f3K1 f4K1
      refine (CS _).mono ?_
      rintro e u3_ ⟨rfl, C⟩
      replace B := bel_tr B C
      replace K := K.next C
      replace K1 := K1.next C
      clear C
      replace B := B.alloc B.size (.cells #[.int .i64 r, .int .i64 s_] 24)
      replace K := K.alloc (.cells #[.int .i64 r, .int .i64 s_] 24)
      replace K1 := K1.alloc (.cells #[.int .i64 r, .int .i64 s_] 24)
      have K2 := Blk.new u3_ 24 #[.int .i64 r, .int .i64 s_]
      obtain ⟨f0K, f1K, f2K, f3K, f4K⟩ := blk_two K
      obtain ⟨f0K1, f1K1, f2K1, f3K1, f4K1⟩ := blk_two K1
      obtain ⟨f0K2, f1K2, f2K2, f3K2, f4K2⟩ := blk_two K2
      go_wp2_with fail
      clear f0K f1K f2K f3K f4K f0K1 f1K1 f2K1 f3K1 f4K1 f0K2 f1K2 f2K2 f3K2 f4K2
      refine (CV _).mono ?_
      rintro e u4_ ⟨rfl, C⟩
      replace B := bel_tr B C
      replace K := K.next C
      replace K1 := K1.next C
      replace K2 := K2.next C
      clear C
      obtain ⟨f0K, f1K, f2K, f3K, f4K⟩ := blk_two K
      obtain ⟨f0K1, f1K1, f2K1, f3K1, f4K1⟩ := blk_two K1
      obtain ⟨f0K2, f1K2, f2K2, f3K2, f4K2⟩ := blk_two K2
      go_wp2_with fail
      clear f0K f1K f2K f3K f4K f0K1 f1K1 f2K1 f3K1 f4K1 f0K2 f1K2 f2K2 f3K2 f4K2
      refine (CO _).mono ?_
      rintro e u5_ ⟨rfl, C⟩
      replace B := bel_tr B C
      replace K := K.next C
      replace K1 := K1.next C
      replace K2 := K2.next C
      clear C
      obtain ⟨f0K, f1K, f2K, f3K, f4K⟩ := blk_two K
      obtain ⟨f0K1, f1K1, f2K1, f3K1, f4K1⟩ := blk_two K1
      obtain ⟨f0K2, f1K2, f2K2, f3K2, f4K2⟩ := blk_two K2
      go_wp2_with fail
      clear f0K f1K f2K f3K f4K f0K1 f1K1 f2K1 f3K1 f4K1 f0K2 f1K2 f2K2 f3K2 f4K2
      go_ret
      exact ⟨rfl, B⟩
  · by_cases hg : g_ = q
    · have p1 : (p_ == 0) = false := by rw [beq_eq_false_iff_ne]; exact hp
      have p2 : (s_ == r) = true := by rw [beq_iff_eq]; exact F2.out.resolve_left hp
      have g1 : (g_ == q) = true := by rw [beq_iff_eq]; exact hg
      clear hp hg
      obtain ⟨f0K, f1K, f2K, f3K, f4K⟩ := blk_two K
      go_wp2_with fail
      clear f0K f1K f2K f3K f4K
      refine (CI _).mono ?_
      rintro e u2_ ⟨rfl, C⟩
      replace B := bel_tr B C
      replace K := K.next C
      clear C
      replace B := B.alloc B.size (.cells #[.int .i64 r, .int .i64 s_] 24)
      replace K := K.alloc (.cells #[.int .i64 r, .int .i64 s_] 24)
      have K1 := Blk.new u2_ 24 #[.int .i64 r, .int .i64 s_]
      obtain ⟨f0K, f1K, f2K, f3K, f4K⟩ := blk_two K
      obtain ⟨f0K1, f1K1, f2K1, f3K1, f4K1⟩ := blk_two K1
      go_wp2_with fail
      clear f0K f1K f2K f3K f4K f0K1 f1K1 f2K1 f3K1 f4K1
      refine (CS _).mono ?_
      rintro e u3_ ⟨rfl, C⟩
      replace B := bel_tr B C
      replace K := K.next C
      replace K1 := K1.next C
      clear C
      replace B := B.alloc B.size (.cells #[.int .i64 r, .int .i64 s_] 24)
      replace K := K.alloc (.cells #[.int .i64 r, .int .i64 s_] 24)
      replace K1 := K1.alloc (.cells #[.int .i64 r, .int .i64 s_] 24)
      have K2 := Blk.new u3_ 24 #[.int .i64 r, .int .i64 s_]
      obtain ⟨f0K, f1K, f2K, f3K, f4K⟩ := blk_two K
      obtain ⟨f0K1, f1K1, f2K1, f3K1, f4K1⟩ := blk_two K1
      obtain ⟨f0K2, f1K2, f2K2, f3K2, f4K2⟩ := blk_two K2
      go_wp2_with fail
      clear f0K f1K f2K f3K f4K f0K1 f1K1 f2K1 f3K1 f4K1 f0K2 f1K2 f2K2 f3K2 f4K2
      refine (CV _).mono ?_
      rintro e u4_ ⟨rfl, C⟩
      replace B := bel_tr B C
      replace K := K.next C
      replace K1 := K1.next C
      replace K2 := K2.next C
      clear C
      obtain ⟨f0K, f1K, f2K, f3K, f4K⟩ := blk_two K
      obtain ⟨f0K1, f1K1, f2K1, f3K1, f4K1⟩ := blk_two K1
      obtain ⟨f0K2, f1K2, f2K2, f3K2, f4K2⟩ := blk_two K2
      go_wp2_with fail
      clear f0K f1K f2K f3K f4K f0K1 f1K1 f2K1 f3K1 f4K1 f0K2 f1K2 f2K2 f3K2 f4K2
      refine (CO _).mono ?_
      rintro e u5_ ⟨rfl, C⟩
      replace B := bel_tr B C
      replace K := K.next C
      replace K1 := K1.next C
      replace K2 := K2.next C
      clear C
      obtain ⟨f0K, f1K, f2K, f3K, f4K⟩ := blk_two K
      obtain ⟨f0K1, f1K1, f2K1, f3K1, f4K1⟩ := blk_two K1
      obtain ⟨f0K2, f1K2, f2K2, f3K2, f4K2⟩ := blk_two K2
      go_wp2_with fail
      clear f0K f1K f2K f3K f4K f0K1 f1K1 f2K1 f3K1 f4K1 f0K2 f1K2 f2K2 f3K2 f4K2
      go_ret
      exact ⟨rfl, B⟩
    · have p1 : (p_ == 0) = false := by rw [beq_eq_false_iff_ne]; exact hp
      have p2 : (s_ == r) = true := by rw [beq_iff_eq]; exact F2.out.resolve_left hp
      have g1 : (g_ == q) = false := by rw [beq_eq_false_iff_ne]; exact hg
      have g2 : (s_ == 0) = true := by rw [beq_iff_eq]; exact F3.out.resolve_left hg
      clear hp hg
      obtain ⟨f0K, f1K, f2K, f3K, f4K⟩ := blk_two K
      go_wp2_with fail
      clear f0K f1K f2K f3K f4K
      refine (CI _).mono ?_
      rintro e u2_ ⟨rfl, C⟩
      replace B := bel_tr B C
      replace K := K.next C
      clear C
      replace B := B.alloc B.size (.cells #[.int .i64 r, .int .i64 s_] 24)
      replace K := K.alloc (.cells #[.int .i64 r, .int .i64 s_] 24)
      have K1 := Blk.new u2_ 24 #[.int .i64 r, .int .i64 s_]
      obtain ⟨f0K, f1K, f2K, f3K, f4K⟩ := blk_two K
      obtain ⟨f0K1, f1K1, f2K1, f3K1, f4K1⟩ := blk_two K1
      go_wp2_with fail
      clear f0K f1K f2K f3K f4K f0K1 f1K1 f2K1 f3K1 f4K1
      refine (CS _).mono ?_
      rintro e u3_ ⟨rfl, C⟩
      replace B := bel_tr B C
      replace K := K.next C
      replace K1 := K1.next C
      clear C
      replace B := B.alloc B.size (.cells #[.int .i64 r, .int .i64 s_] 24)
      replace K := K.alloc (.cells #[.int .i64 r, .int .i64 s_] 24)
      replace K1 := K1.alloc (.cells #[.int .i64 r, .int .i64 s_] 24)
      have K2 := Blk.new u3_ 24 #[.int .i64 r, .int .i64 s_]
      obtain ⟨f0K, f1K, f2K, f3K, f4K⟩ := blk_two K
      obtain ⟨f0K1, f1K1, f2K1, f3K1, f4K1⟩ := blk_two K1
      obtain ⟨f0K2, f1K2, f2K2, f3K2, f4K2⟩ := blk_two K2
      go_wp2_with fail
      clear f0K f1K f2K f3K f4K f0K1 f1K1 f2K1 f3K1 f4K1 f0K2 f1K2 f2K2 f3K2 f4K2
      refine (CV _).mono ?_
      rintro e u4_ ⟨rfl, C⟩
      replace B := bel_tr B C
      replace K := K.next C
      replace K1 := K1.next C
      replace K2 := K2.next C
      clear C
      obtain ⟨f0K, f1K, f2K, f3K, f4K⟩ := blk_two K
      obtain ⟨f0K1, f1K1, f2K1, f3K1, f4K1⟩ := blk_two K1
      obtain ⟨f0K2, f1K2, f2K2, f3K2, f4K2⟩ := blk_two K2
      go_wp2_with fail
      clear f0K f1K f2K f3K f4K f0K1 f1K1 f2K1 f3K1 f4K1 f0K2 f1K2 f2K2 f3K2 f4K2
      refine (CO _).mono ?_
      rintro e u5_ ⟨rfl, C⟩
      replace B := bel_tr B C
      replace K := K.next C
      replace K1 := K1.next C
      replace K2 := K2.next C
      clear C
      obtain ⟨f0K, f1K, f2K, f3K, f4K⟩ := blk_two K
      obtain ⟨f0K1, f1K1, f2K1, f3K1, f4K1⟩ := blk_two K1
      obtain ⟨f0K2, f1K2, f2K2, f3K2, f4K2⟩ := blk_two K2
      go_wp2_with fail
      clear f0K f1K f2K f3K f4K f0K1 f1K1 f2K1 f3K1 f4K1 f0K2 f1K2 f2K2 f3K2 f4K2
      go_ret
      exact ⟨rfl, B⟩

set_option maxRecDepth 100000 in
theorem lifted (os : Os) (started : os.Started) (H : Type) (enc : TypeId × Value → H) :
    ReturnsInHanded {} Try.checked os 4 .any (Rows.fnStepBasinSpec.pre6 enc Try.prog Try.f4 Rows.fnStepBasinRow.domain false) (Rows.fnStepBasinSpec.post enc Try.prog Try.f4 false true false false) := by
  refine returnsInHanded_of_change (C := Try.checked) own started (by kernel_rfl) Try.func4
    (ChangeSpec.witness6 (enc := enc) (C := Try.checked) false ⟨#[], #[.slice none 0 0], []⟩ 8 (by kernel_rfl) (by kernel_rfl) (by kernel_rfl) (by kernel_rfl)) ?_
  intro W base args ds gs before hval0 hW hcnd _
  have hval : ∀ (j : Nat) t v, Try.f4.params[j]? = some t → args[j]? = some v → Value.okWide Try.prog W .any base t v := hval0
  have hW' := hW
  obtain ⟨p, q, hA0, hV, rfl, hfz, hnd⟩ := hW
  have hA : DataW.TrodAll enc Try.prog W 0 (fun _ => true) true Try.f4.params.toList args.toList ds p := hA0
  rw [Try.params4] at hA hval
  obtain ⟨v0, vs0, e0, es0, p0, q0, hargs, rfl, rfl, h0, r0⟩ := trodAll_cons hA
  obtain ⟨rfl, rfl, rfl⟩ := trodAll_nil r0
  obtain rfl : args = #[v0] := by cases args; simp_all
  obtain ⟨rfl, rfl⟩ := trodVars_none hV
  have k0 := h0
  have lt0 : ∀ x ∈ p0, x.block < W.heap.size := by obtain ⟨m, hm⟩ := k0; exact DataW.trod_lt m _ _ _ hm
  obtain ⟨a0, len0, cap0, rfl⟩ := okWide_slice Try.underlying22 (hval 0 22 v0 rfl rfl)
  obtain ⟨z0, w0⟩ : ∃ zs, IsRow .u8 W a0 len0 cap0 zs := by
    obtain ⟨fuel, hf⟩ := h0
    rcases open_ints Try.underlying22 Try.underlying5 (by kernel_rfl) hf with ⟨hcs, _⟩ | ⟨x, l, c, zs, hcs, _, hl, hm, hz, _, hcell, hwz⟩
    · simp [Value.cells] at hcs
      obtain ⟨rfl, rfl, rfl⟩ := hcs
      exact ⟨[], .inl ⟨rfl, rfl, rfl, rfl⟩⟩
    · simp [Value.cells] at hcs
      obtain ⟨rfl, rfl, rfl⟩ := hcs
      exact ⟨zs, .inr ⟨_, rfl, hl, hm, by simpa using hz, hcell, hwz⟩⟩
  clear hA0 hval0
  refine (walk a0 len0 cap0 z0 W w0).mono fun e W' ⟨he, bel⟩ => ?_
  subst he
  exact ⟨_, rfl, _, _, _, [], _, [], hW', trodAll_mk1 (shut_bool Try.underlying4 _), (trodAll_cons_mk (Below.trod laidOut (by kernel_rfl) (of_decide_eq_true (by kernel_rfl)) k0 bel lt0) trodAll_mk0), rfl, bel.frame _, fun h => by cases h⟩

theorem over : Rows.fnStepBasinRow.holds Try.pinned (OpenSpec.ofChange Rows.fnStepBasinSpec) :=
  OpenClaim.holds_of_wide 4 Try.f4 rfl rfl rfl rfl rfl rfl rfl ⟨rfl, rfl, rfl, rfl, rfl⟩ rfl rfl rfl rfl rfl (by kernel_rfl) Try.func4 (by kernel_rfl)
    (of_decide_eq_true (by kernel_rfl)) (by unfold Func.isWrapper; first | (rw [if_pos (by decide +kernel)]; kernel_rfl) | (rw [if_neg (by decide +kernel)]; exact ⟨rfl, rfl⟩))
    (fun os started H enc _ => lifted os started H enc)

end Go.Proofs.Ytfcgjiciobfncaa.fnStepBasin
namespace Go.Proofs.Ytfcgjiciobfncaa
/-- the statement -/
theorem fnStepBasin_holds : Rows.FnStepBasinSaid := fnStepBasin.over
end Go.Proofs.Ytfcgjiciobfncaa
