/- Gates that are set, by the program and by the model. Condition: at most 1048576 nodes. -/
import Derived.Test.YtlpmeljneogpiabNodK
namespace Go.Proofs.Ytlpmeljneogpiab
open Go.RowKit
set_option linter.unusedSimpArgs false
set_option linter.unusedVariables false

theorem flatNd_gate : ∀ (ns : List Nd) (k : Nat) (x : Int), k < ns.length → (flatNd ns).set (k * 5 + 1) x = flatNd (ns.set k ((ns.getD k nd0).1, x, (ns.getD k nd0).2.2)) := by
  intro ns
  induction ns with
  | nil => intro k x h; simp at h
  | cons h t ih =>
    intro k x hk
    cases k with
    | zero => rfl
    | succ k =>
      have := ih k x (by simpa using hk)
      rw [show (k + 1) * 5 + 1 = k * 5 + 1 + 1 + 1 + 1 + 1 + 1 from by omega]
      show h.1 :: h.2.1 :: h.2.2.1 :: h.2.2.2.1 :: h.2.2.2.2 :: ((flatNd t).set (k * 5 + 1) x) = _
      rw [this]; rfl
def sgB (ns : List Nd) (at_ wt : Int) : Bool := vnB ns && inN ns.length at_ && (decide (0 ≤ wt) && decide (wt ≤ 1000))
def sgL (ns : List Nd) (at_ wt : Int) : List Nd := ns.set at_.toNat ((ns.getD at_.toNat nd0).1, wt, (ns.getD at_.toNat nd0).2.2)
theorem gate_no {ns : List Nd} {at_ wt : Int} (h : vnB ns = false ∨ inN ns.length at_ = false ∨ (decide (0 ≤ wt) && decide (wt ≤ 1000)) = false) : sgB ns at_ wt = false := by
  unfold sgB; rcases h with h | h | h <;> rw [h] <;> simp
/-- what a function that hands back nodes leaves: nil, or nodes in memory of its own -/
def OutNd (w : World) (b : Bool) (L : List Nd) (e : Ending) (w' : World) : Prop := (b = false → e = .returned (.slice none 0 0)) ∧ (b = true → ∃ g cap, e = .returned (.slice (some ⟨g, 0, none⟩) L.length cap) ∧ w.heap.size ≤ g ∧ Flat w' g 34 (flatNd L) ∧ L.length ≤ cap) ∧ Below w.heap.size w w'
theorem outNd_no {w w' : World} {L : List Nd} {e : Ending} (he : e = .returned (.slice none 0 0)) (h : Below w.heap.size w w') : OutNd w false L e w' := ⟨fun _ => he, (fun c => by cases c), h⟩
theorem outNd_yes {w w' : World} {L : List Nd} {g cap n : Nat} {e : Ending} (he : e = .returned (.slice (some ⟨g, 0, none⟩) n cap)) (hn : n = L.length) (hg : w.heap.size ≤ g) (hF : Flat w' g 34 (flatNd L)) (hc : L.length ≤ cap) (h : Below w.heap.size w w') : OutNd w true L e w' :=
  ⟨(fun c => by cases c), fun _ => ⟨g, cap, by rw [he, hn], hg, hF, hc⟩, h⟩
theorem flat_newNd {w1 : World} {base : Nat} {v1 : Value} {ns : List Nd} (h : w1.ownsRow base 34 5 v1 (0 + ns.length) ([] ++ valsNd ns)) (hn : 1 ≤ ns.length) : ∃ g cap, v1 = .slice (some ⟨g, 0, none⟩) ns.length cap ∧ base ≤ g ∧ Flat w1 g 34 (flatNd ns) ∧ ns.length ≤ cap := by
  rw [Nat.zero_add, List.nil_append] at h
  rcases Flat.own (zs := flatNd ns) h with ⟨_, hz⟩ | r
  · omega
  · exact r
theorem gate_flat {w : World} {g k : Nat} {ns : List Nd} {x : Int} (hF : Flat w g 34 (flatNd ns)) (hk : k < ns.length) : Flat (w.setCell ⟨g, k * 5 + 1, none⟩ (.int .i64 x)) g 34 (flatNd (sgL ns (k : Int) x)) := by
  have hl := flatNd_len ns
  have a := hF.set_ (i := k * 5 + 1) (by omega) x
  rw [flatNd_gate ns k x hk] at a
  exact a
set_option maxHeartbeats 4000000 in
/-- impl.SetGate -/
theorem iSetGate (a : Option Addr) (cap : Nat) (ns : List Nd) (at_ wt : Int) (w : World) (h : IsNd w a ns) (hn : ns.length ≤ 1048576) (hcap : ns.length ≤ cap) :
    Calls Try.prog 18 #[.slice a ns.length cap, .int .i64 at_, .int .i64 wt] w (OutNd w (sgB ns at_ wt) (sgL ns at_ wt)) := by
  have VN := iVN a cap ns _ h hn hcap
  have CI := fun W => iisNode a ns.length cap at_ W hn
  skip
  skip
  have CW := fun W => iwithin wt 1000 W
  cases hv : vnB ns with
  | false =>
    rw [gate_no (.inl hv)]
    rw [hv] at VN
    clear hv h
    go_enter Try.func18, Try.ntmps18
    go_wp2_with fail
    refine VN.mono ?_
    rintro e w1 ⟨rfl, C⟩
    go_wp2_with fail
    go_ret
    exact outNd_no rfl C
  | true =>
  rw [hv] at VN
  cases hi : inN ns.length at_ with
  | false =>
    rw [gate_no (.inr (.inl hi))]
    rw [hi] at CI
    clear hv hi h
    go_enter Try.func18, Try.ntmps18
    go_wp2_with fail
    refine VN.mono ?_
    rintro e w1 ⟨rfl, C⟩
    go_wp2_with fail
    refine (CI _).mono ?_
    rintro e w' ⟨rfl, rfl⟩
    go_wp2_with fail
    go_ret
    exact outNd_no rfl C
  | true =>
    rw [hi] at CI
    have HH := Lib.hid h
    cases hw : (decide (0 ≤ wt) && decide (wt ≤ 1000)) with
    | false =>
      rw [gate_no (.inr (.inr hw))]
      rw [hw] at CW
      clear hw hi hv h
      go_enter Try.func18, Try.ntmps18
      go_wp2_with fail
      refine VN.mono ?_
      rintro e w1 ⟨rfl, C⟩
      go_wp2_with fail
      refine (CI _).mono ?_
      rintro e w' ⟨rfl, rfl⟩
      go_wp2_with fail
      refine (CW _).mono ?_
      rintro e w' ⟨rfl, rfl⟩
      clear VN CI CW
      go_wp2_with fail
      go_ret
      exact outNd_no rfl C
    | true =>
      rw [show sgB ns at_ wt = true from by unfold sgB; rw [hv, hi, hw]; rfl]
      rw [hw] at CW
      obtain ⟨k, rfl, hk⟩ := inN_yes hi
      obtain ⟨i0, hi0, hz0, hz1, hz2⟩ := info_parts infoNd
      have b0 : (0 : Int) ≤ (k : Int) := by omega
      have b1 : (k : Int) < (ns.length : Int) := by omega
      have hl5 := flatNd_len ns
      clear hw hi hv h
      go_enter Try.func18, Try.ntmps18
      go_wp2_with fail
      refine VN.mono ?_
      rintro e w1 ⟨rfl, C⟩
      go_wp2_with fail
      refine (CI _).mono ?_
      rintro e w' ⟨rfl, rfl⟩
      go_wp2_with fail
      refine (CW _).mono ?_
      rintro e w' ⟨rfl, rfl⟩
      clear VN CI CW
      have hrd := (nd_reads (nd_below HH.out C)).alloc (Nat.le_refl _) (.cells #[] 34)
      have hsz := C.size
      have HB : Hid (∀ W, (w1.alloc (.cells #[] 34)).grownBy W (some w1.heap.size) → Below w.heap.size w W) := fun W hg => (C.alloc hsz _).grown hg (by simp; omega) (fun q hq => by have e : w1.heap.size = q := Option.some.inj hq; omega)
      clear C
      go_wp2_with (first | (at_builtin; refine wpList_append_any _ rfl (.tmp 22) (.tmp 23) _ rfl w.heap.size 34 i0 _ 5 40 Try.underlying23 hi0 hz0 hz1 hz2 rfl (by omega) _ 0 [] rfl ⟨rfl, .inr ⟨w1.heap.size, 0, #[], rfl, hsz, Blk.new _ _ _, Nat.le_refl _, by unfold maxLen; omega, rfl, rfl⟩⟩ w1.heap.size a ns.length cap (valsNd ns) rfl hrd (valsNd_one ns) (by unfold maxLen; omega) (by omega) (by simp; omega) ?_; intro v3 w3 hown3 hgrow3 hat3; obtain ⟨g3, cp, rfl, lg3, F3, hcc⟩ := flat_newNd hown3 (by omega); have kc := F3.cell (j := k * 5 + 1) (by omega); have kf := F3.frozen (k * 5 + 1); have hB3 := HB.out w3 hgrow3; replace F3 := Lib.hid F3; replace hB3 := Lib.hid hB3; clear hown3 hgrow3 hat3 hrd))
      go_ret
      exact outNd_yes rfl (by unfold sgL; rw [List.length_set]) lg3 (gate_flat F3.out hk) (by unfold sgL; rw [List.length_set]; exact hcc) (hB3.out.setCell (p := ⟨g3, k * 5 + 1, none⟩) lg3 _)
set_option maxHeartbeats 4000000 in
/-- spec.SetGate -/
theorem sSetGate (a : Option Addr) (cap : Nat) (ns : List Nd) (at_ wt : Int) (w : World) (h : IsNd w a ns) (hn : ns.length ≤ 1048576) (hcap : ns.length ≤ cap) :
    Calls Try.prog 20 #[.slice a ns.length cap, .int .i64 at_, .int .i64 wt] w (OutNd w (sgB ns at_ wt) (sgL ns at_ wt)) := by
  have VN := svn a cap ns _ h hn
  have CI := fun W => sinRange at_ 0 ((ns.length : Int) - 1) W
  rw [inN_range] at CI
  have wn : IntKind.i64.wrap ((ns.length : Int) - 1) = (ns.length : Int) - 1 := by rw [IntKind.wrap_i64]; omega
  have CW := fun W => sinRange wt 0 1000 W
  cases hv : vnB ns with
  | false =>
    rw [gate_no (.inl hv)]
    rw [hv] at VN
    clear hv h
    go_enter Try.func20, Try.ntmps20
    go_wp2_with fail
    refine VN.mono ?_
    rintro e w1 ⟨rfl, C⟩
    go_wp2_with fail
    go_ret
    exact outNd_no rfl C
  | true =>
  rw [hv] at VN
  cases hi : inN ns.length at_ with
  | false =>
    rw [gate_no (.inr (.inl hi))]
    rw [hi] at CI
    clear hv hi h
    go_enter Try.func20, Try.ntmps20
    go_wp2_with fail
    refine VN.mono ?_
    rintro e w1 ⟨rfl, C⟩
    go_wp2_with fail
    refine (CI _).mono ?_
    rintro e w' ⟨rfl, rfl⟩
    go_wp2_with fail
    go_ret
    exact outNd_no rfl C
  | true =>
    rw [hi] at CI
    have HH := Lib.hid h
    cases hw : (decide (0 ≤ wt) && decide (wt ≤ 1000)) with
    | false =>
      rw [gate_no (.inr (.inr hw))]
      rw [hw] at CW
      clear hw hi hv h
      go_enter Try.func20, Try.ntmps20
      go_wp2_with fail
      refine VN.mono ?_
      rintro e w1 ⟨rfl, C⟩
      go_wp2_with fail
      refine (CI _).mono ?_
      rintro e w' ⟨rfl, rfl⟩
      go_wp2_with fail
      refine (CW _).mono ?_
      rintro e w' ⟨rfl, rfl⟩
      clear VN CI CW
      go_wp2_with fail
      go_ret
      exact outNd_no rfl C
    | true =>
      rw [show sgB ns at_ wt = true from by unfold sgB; rw [hv, hi, hw]; rfl]
      rw [hw] at CW
      obtain ⟨k, rfl, hk⟩ := inN_yes hi
      obtain ⟨i0, hi0, hz0, hz1, hz2⟩ := info_parts infoNd
      have b0 : (0 : Int) ≤ (k : Int) := by omega
      have b1 : (k : Int) < (ns.length : Int) := by omega
      have hl5 := flatNd_len ns
      clear hw hi hv h
      go_enter Try.func20, Try.ntmps20
      go_wp2_with fail
      refine VN.mono ?_
      rintro e w1 ⟨rfl, C⟩
      go_wp2_with fail
      refine (CI _).mono ?_
      rintro e w' ⟨rfl, rfl⟩
      go_wp2_with fail
      refine (CW _).mono ?_
      rintro e w' ⟨rfl, rfl⟩
      clear VN CI CW
      have hrd := (nd_reads (nd_below HH.out C)).alloc (Nat.le_refl _) (.cells #[] 34)
      have hsz := C.size
      have HB : Hid (∀ W, (w1.alloc (.cells #[] 34)).grownBy W (some w1.heap.size) → Below w.heap.size w W) := fun W hg => (C.alloc hsz _).grown hg (by simp; omega) (fun q hq => by have e : w1.heap.size = q := Option.some.inj hq; omega)
      clear C
      go_wp2_with (first | (at_builtin; refine wpList_append_any _ rfl (.tmp 24) (.tmp 25) _ rfl w.heap.size 34 i0 _ 5 40 Try.underlying23 hi0 hz0 hz1 hz2 rfl (by omega) _ 0 [] rfl ⟨rfl, .inr ⟨w1.heap.size, 0, #[], rfl, hsz, Blk.new _ _ _, Nat.le_refl _, by unfold maxLen; omega, rfl, rfl⟩⟩ w1.heap.size a ns.length cap (valsNd ns) rfl hrd (valsNd_one ns) (by unfold maxLen; omega) (by omega) (by simp; omega) ?_; intro v3 w3 hown3 hgrow3 hat3; obtain ⟨g3, cp, rfl, lg3, F3, hcc⟩ := flat_newNd hown3 (by omega); have kc := F3.cell (j := k * 5 + 1) (by omega); have kf := F3.frozen (k * 5 + 1); have hB3 := HB.out w3 hgrow3; replace F3 := Lib.hid F3; replace hB3 := Lib.hid hB3; clear hown3 hgrow3 hat3 hrd))
      go_ret
      exact outNd_yes rfl (by unfold sgL; rw [List.length_set]) lg3 (gate_flat F3.out hk) (by unfold sgL; rw [List.length_set]; exact hcc) (hB3.out.setCell (p := ⟨g3, k * 5 + 1, none⟩) lg3 _)
end Go.Proofs.Ytlpmeljneogpiab
