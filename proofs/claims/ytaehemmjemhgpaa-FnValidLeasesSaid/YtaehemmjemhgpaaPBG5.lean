/- Contracts and facts of functions of this program, in build order. Conditions: those stated in each. -/
import Derived.Test.YtaehemmjemhgpaaPBLzs
import Derived.Test.YtaehemmjemhgpaaPBHoldW
import Derived.Test.YtaehemmjemhgpaaPBG0
import Derived.Test.YtaehemmjemhgpaaPBG1
import Derived.Test.YtaehemmjemhgpaaPBG3
import Derived.Test.YtaehemmjemhgpaaPBG4
import Derived.Deep.RegionHeld3
import Derived.Deep.RegionWith
import Derived.Deep.QuietTactic
import Derived.BigQuiet
import Derived.RegionTactic
set_option maxRecDepth 100000
set_option maxHeartbeats 16000000
namespace Go.Proofs.Ytaehemmjemhgpaa
open Go.RowKit
set_option linter.unusedSimpArgs false
set_option linter.unusedVariables false
theorem lv_lz {hs : List Hd} (ls : List Lr) (h : vlR hs = true) : lzB hs ls = lvB hs ls := by
  unfold lzB lvB
  rw [h]
  cases decide (ls.length ≤ 10) <;> cases termsB ls <;> cases (List.range ls.length).all (lzK hs ls) <;> rfl
theorem svLzA (a A : Option Addr) (cap capz : Nat) (hs : List Hd) (ls : List Lr) (w : World) (h : IsHs w a hs) (hn : hs.length ≤ 1048576) (hz : IsLs w A ls) (hzn : ls.length ≤ 1048576) (hv : vlR hs = true) :
    Calls Try.prog 69 #[.slice a hs.length cap, .slice A ls.length capz] w fun e w' => e = .returned (.bool (lvB hs ls)) ∧ Below w.heap.size w w' := by
  rcases hz with rfl | ⟨g, u, rfl, hc⟩
  · have HV : Hid (lvB hs [] = true) := rfl
    clear h hv
    go_enter Try.func69, Try.ntmps69
    go_wp2_with fail
    go_rounds 1
    go_rounds 1
    go_ret
    exact ⟨ret_bool HV.out.symm, by go_grown⟩
  · exact svLz a cap hs g u capz ls w h hn hc hzn hv
/-- spec.ValidLeases -/
theorem sLeases (a A : Option Addr) (cap capz : Nat) (hs : List Hd) (ls : List Lr) (w : World) (h : IsHs w a hs) (hn : hs.length ≤ 1048576) (hz : IsLs w A ls) (hzn : ls.length ≤ 1048576) :
    Calls Try.prog 19 #[.slice a hs.length cap, .slice A ls.length capz] w fun e w' => e = .returned (.bool (lzB hs ls)) ∧ Below w.heap.size w w' := by
  have CV := svl a cap hs w h hn
  cases hv : vlR hs with
  | false =>
    have HN : Hid (lzB hs ls = false) := lz_no (.inl hv)
    rw [hv] at CV
    clear hv h hz
    go_enter Try.func19, Try.ntmps19
    go_wp2_with fail
    refine CV.mono ?_
    rintro e w1 ⟨rfl, hb⟩
    go_wp2_with fail
    go_ret
    exact ⟨ret_bool HN.out.symm, hb⟩
  | true =>
    have HL : Hid (∀ W, Below w.heap.size w W → Calls Try.prog 69 #[.slice a hs.length cap, .slice A ls.length capz] W fun e w' => e = .returned (.bool (lzB hs ls)) ∧ Below W.heap.size W w') := fun W hW => by
      rw [lv_lz ls hv]; exact svLzA a A cap capz hs ls W (hs_below h hW) hn (ls_below hz hW) hzn hv
    rw [hv] at CV
    clear hv h hz
    go_enter Try.func19, Try.ntmps19
    go_wp2_with fail
    refine CV.mono ?_
    rintro e w1 ⟨rfl, hb⟩
    go_wp2_with fail
    refine (HL.out _ hb).mono ?_
    rintro e w2 ⟨rfl, hb2⟩
    have HB := Lib.hid (bel_tr hb hb2)
    clear hb hb2
    go_wp2_with fail
    go_ret
    exact ⟨rfl, HB.out⟩
theorem infoLs : (Try.prog.info? 97).map (fun i => (i.zero, i.size, i.bytes)) = some (some (.agg #[.int .i64 0, .int .i64 0, .int .i64 0, .int .i64 0, .int .i64 0, .int .i64 0]), 6, 48) := by kernel_rfl
def flatLs : List Lr → List Int
  | [] => []
  | h :: t => h.ow :: h.te :: h.n :: h.d :: h.fr :: h.en :: flatLs t
theorem flatLs_len : ∀ xs : List Lr, (flatLs xs).length = xs.length * 6 := by
  intro xs
  induction xs with
  | nil => rfl
  | cons h t ih => show (flatLs t).length + 1 + 1 + 1 + 1 + 1 + 1 = (t.length + 1) * 6; rw [ih]; omega
theorem flatLs_append : ∀ a b : List Lr, flatLs (a ++ b) = flatLs a ++ flatLs b := by
  intro a b
  induction a with
  | nil => rfl
  | cons h t ih => show h.ow :: h.te :: h.n :: h.d :: h.fr :: h.en :: flatLs (t ++ b) = _; rw [ih]; rfl
theorem flatLs_get : ∀ (xs : List Lr) (k : Nat), k < xs.length → (flatLs xs).getD (k * 6) 0 = (xs.getD k lr0).ow ∧ (flatLs xs).getD (k * 6 + 1) 0 = (xs.getD k lr0).te ∧ (flatLs xs).getD (k * 6 + 2) 0 = (xs.getD k lr0).n ∧ (flatLs xs).getD (k * 6 + 3) 0 = (xs.getD k lr0).d ∧ (flatLs xs).getD (k * 6 + 4) 0 = (xs.getD k lr0).fr ∧ (flatLs xs).getD (k * 6 + 5) 0 = (xs.getD k lr0).en := by
  intro xs
  induction xs with
  | nil => intro k h; simp at h
  | cons h t ih =>
    intro k hk
    cases k with
    | zero => exact ⟨rfl, rfl, rfl, rfl, rfl, rfl⟩
    | succ k =>
      have := ih k (by simpa using hk)
      rw [show (k + 1) * 6 = k * 6 + 1 + 1 + 1 + 1 + 1 + 1 from by omega]
      exact this
def valsLs (xs : List Lr) : List Value := (flatLs xs).map (Value.int .i64)
theorem valsLs_len (xs : List Lr) : (valsLs xs).length = xs.length * 6 := by unfold valsLs; rw [List.length_map, flatLs_len]
theorem valsLs_append (a b : List Lr) : valsLs (a ++ b) = valsLs a ++ valsLs b := by unfold valsLs; rw [flatLs_append, List.map_append]
theorem valsLs_one (xs : List Lr) : ∀ u ∈ valsLs xs, u.oneCell' = true := fun u hu => by
  unfold valsLs at hu
  obtain ⟨z, _, rfl⟩ := List.mem_map.1 hu
  rfl
theorem valsLs_get {xs : List Lr} {k : Nat} (h : k < xs.length) : (valsLs xs)[k * 6]? = some (.int .i64 (xs.getD k lr0).ow) ∧ (valsLs xs)[k * 6 + 1]? = some (.int .i64 (xs.getD k lr0).te) ∧ (valsLs xs)[k * 6 + 2]? = some (.int .i64 (xs.getD k lr0).n) ∧ (valsLs xs)[k * 6 + 3]? = some (.int .i64 (xs.getD k lr0).d) ∧ (valsLs xs)[k * 6 + 4]? = some (.int .i64 (xs.getD k lr0).fr) ∧ (valsLs xs)[k * 6 + 5]? = some (.int .i64 (xs.getD k lr0).en) := by
  obtain ⟨a0, a1, a2, a3, a4, a5⟩ := flatLs_get xs k h
  have hl := flatLs_len xs
  have get : ∀ j, j < (flatLs xs).length → (valsLs xs)[j]? = some (.int .i64 ((flatLs xs).getD j 0)) := fun j hj => by
    unfold valsLs
    rw [List.getElem?_map, List.getElem?_eq_getElem hj, List.getD_eq_getElem?_getD, List.getElem?_eq_getElem hj]; rfl
  rw [get _ (by omega), get _ (by omega), get _ (by omega), get _ (by omega), get _ (by omega), get _ (by omega), a0, a1, a2, a3, a4, a5]
  exact ⟨rfl, rfl, rfl, rfl, rfl, rfl⟩
theorem reads_ls {w : World} {B : Nat} {a : Option Addr} {xs : List Lr} (h : Reads w B 6 a xs.length (valsLs xs)) (hsp : ∀ ad, a = some ad → ad.spot = none) : IsLs w a xs := by
  by_cases hn : xs = []
  · exact .inl hn
  · obtain ⟨ad, rfl, _, hc⟩ := h.2 (by cases xs with | nil => exact absurd rfl hn | cons _ _ => simp)
    obtain ⟨g, o, sp⟩ := ad
    obtain rfl : sp = none := hsp _ rfl
    refine .inr ⟨g, o, rfl, fun i hi => ?_⟩
    obtain ⟨v0, v1, v2, v3, v4, v5⟩ := valsLs_get hi
    have e0 := hc _ _ v0
    have e1 := hc _ _ v1
    have e2 := hc _ _ v2
    have e3 := hc _ _ v3
    have e4 := hc _ _ v4
    have e5 := hc _ _ v5
    rw [add_off] at e0 e1 e2 e3 e4 e5
    rw [← Nat.add_assoc] at e1 e2 e3 e4 e5
    exact ⟨e0, e1, e2, e3, e4, e5⟩
/-- a row of the call's own that holds xs -/
def OwnLz (w : World) (base : Nat) (v : Value) (xs : List Lr) : Prop := w.ownsRow base 97 6 v xs.length (valsLs xs)
theorem own_lz {w : World} {base : Nat} {v : Value} {xs : List Lr} (h : OwnLz w base v xs) : ∃ (b : Option Addr) (cap : Nat), v = .slice b xs.length cap ∧ IsLs w b xs ∧ (∀ ad, b = some ad → base ≤ ad.block) := by
  have h0 := h
  rcases h.2 with ⟨hv, hn⟩ | ⟨g, cap, cur, hv, hg, _⟩
  · exact ⟨none, 0, by rw [hv, hn], .inl (List.eq_nil_of_length_eq_zero hn), fun ad e => by cases e⟩
  · subst hv
    exact ⟨some ⟨g, 0, none⟩, cap, rfl, reads_ls (Reads.of_own h0) (fun ad e => by injection e with e; rw [← e]), fun ad e => by injection e with e; subst e; exact hg⟩
theorem own_snocLz {w : World} {base : Nat} {v : Value} {xs : List Lr} {x : Lr} (h : w.ownsRow base 97 6 v (xs.length + 1) (valsLs xs ++ [.int .i64 x.ow, .int .i64 x.te, .int .i64 x.n, .int .i64 x.d, .int .i64 x.fr, .int .i64 x.en])) : OwnLz w base v (xs ++ [x]) := by
  unfold OwnLz
  rw [List.length_append, valsLs_append]
  exact h
theorem ls_take {w : World} {g o : Nat} {xs : List Lr} (hc : ∀ i, i < xs.length → w.cell? ⟨g, o + i * 6, none⟩ = some (.int .i64 (xs.getD i lr0).ow) ∧ w.cell? ⟨g, o + i * 6 + 1, none⟩ = some (.int .i64 (xs.getD i lr0).te) ∧ w.cell? ⟨g, o + i * 6 + 2, none⟩ = some (.int .i64 (xs.getD i lr0).n) ∧ w.cell? ⟨g, o + i * 6 + 3, none⟩ = some (.int .i64 (xs.getD i lr0).d) ∧ w.cell? ⟨g, o + i * 6 + 4, none⟩ = some (.int .i64 (xs.getD i lr0).fr) ∧ w.cell? ⟨g, o + i * 6 + 5, none⟩ = some (.int .i64 (xs.getD i lr0).en)) (k : Nat) : IsLs w (some ⟨g, o, none⟩) (xs.take k) := by
  refine .inr ⟨g, o, rfl, fun i hi => ?_⟩
  rw [List.length_take] at hi
  have e : (xs.take k).getD i lr0 = xs.getD i lr0 := by
    rw [List.getD_eq_getElem?_getD, List.getD_eq_getElem?_getD, List.getElem?_take_of_lt (by omega)]
  rw [e]; exact hc i (by omega)
theorem flatLs_drop (xs : List Lr) (k : Nat) : (flatLs xs).drop (k * 6) = flatLs (xs.drop k) := by
  induction xs generalizing k with
  | nil => simp [flatLs]
  | cons h t ih =>
    cases k with
    | zero => rfl
    | succ k =>
      rw [show (k + 1) * 6 = k * 6 + 1 + 1 + 1 + 1 + 1 + 1 from by omega]
      show (flatLs t).drop (k * 6) = _
      rw [ih]; rfl
theorem ls_reads {w : World} {a : Option Addr} {xs : List Lr} (h : IsLs w a xs) : Reads w w.heap.size 6 a xs.length (valsLs xs) := by
  refine ⟨valsLs_len xs, fun hn => ?_⟩
  rcases h with rfl | ⟨g, o, rfl, hc⟩
  · exact absurd hn (by simp)
  · refine ⟨⟨g, o, none⟩, rfl, ?_, fun j u hu => ?_⟩
    · exact World.block_lt_of_cell? w _ (hc 0 hn).1
    · have hl := valsLs_len xs
      have hj : j < (valsLs xs).length := by
        rcases Nat.lt_or_ge j (valsLs xs).length with h | h
        · exact h
        · rw [List.getElem?_eq_none h] at hu; cases hu
      have hk : j / 6 < xs.length := by omega
      obtain ⟨c0, c1, c2, c3, c4, c5⟩ := hc _ hk
      obtain ⟨v0, v1, v2, v3, v4, v5⟩ := valsLs_get hk
      have hm : j % 6 = 0 ∨ j % 6 = 1 ∨ j % 6 = 2 ∨ j % 6 = 3 ∨ j % 6 = 4 ∨ j % 6 = 5 := by omega
      rw [add_off]
      rcases hm with e | e | e | e | e | e
      · have ej : j = j / 6 * 6 := by omega
        rw [ej] at hu ⊢; rw [v0] at hu; rw [c0, ← hu]
      · have ej : j = j / 6 * 6 + 1 := by omega
        rw [ej] at hu ⊢; rw [v1] at hu; rw [← Nat.add_assoc, c1, ← hu]
      · have ej : j = j / 6 * 6 + 2 := by omega
        rw [ej] at hu ⊢; rw [v2] at hu; rw [← Nat.add_assoc, c2, ← hu]
      · have ej : j = j / 6 * 6 + 3 := by omega
        rw [ej] at hu ⊢; rw [v3] at hu; rw [← Nat.add_assoc, c3, ← hu]
      · have ej : j = j / 6 * 6 + 4 := by omega
        rw [ej] at hu ⊢; rw [v4] at hu; rw [← Nat.add_assoc, c4, ← hu]
      · have ej : j = j / 6 * 6 + 5 := by omega
        rw [ej] at hu ⊢; rw [v5] at hu; rw [← Nat.add_assoc, c5, ← hu]
theorem own_lz2 {w : World} {base : Nat} {v : Value} {xs : List Lr} (h : OwnLz w base v xs) : ∃ (b : Option Addr) (cap : Nat), v = .slice b xs.length cap ∧ IsLs w b xs := by
  obtain ⟨b, cap, e, hi, _⟩ := own_lz h
  exact ⟨b, cap, e, hi⟩
theorem own_emptyLs (w : World) : (w.alloc (.cells #[] 97)).ownsRow w.heap.size 97 6 (.slice (some ⟨w.heap.size, 0, none⟩) 0 0) 0 [] := ⟨rfl, .inr ⟨w.heap.size, 0, #[], rfl, Nat.le_refl _, Blk.new _ _ _, Nat.le_refl _, by unfold maxLen; omega, rfl, rfl⟩⟩
theorem take_readsLs {w : World} {g o : Nat} {xs : List Lr} (h : IsLs w (some ⟨g, o, none⟩) xs) {k : Nat} (hk : k ≤ xs.length) : Reads w w.heap.size 6 (some ⟨g, o, none⟩) k (valsLs (xs.take k)) := by
  have hl : (xs.take k).length = k := by rw [List.length_take]; omega
  have h2 : IsLs w (some ⟨g, o, none⟩) (xs.take k) := by
    rcases h with rfl | ⟨g', o', e, hc⟩
    · simp; exact .inl rfl
    · injection e with e
      injection e with e1 e2
      subst e1 e2
      exact ls_take hc k
  have := ls_reads h2
  rwa [hl] at this
theorem drop_readsLs {w : World} {g o : Nat} {xs : List Lr} {cap : Nat} (h : IsLs w (some ⟨g, o, none⟩) xs) {k : Nat} (hk : k ≤ xs.length) (hc : xs.length ≤ cap) : Reads w w.heap.size 6 (if cap = k then some ⟨g, o, none⟩ else some ⟨g, o + k * 6, none⟩) (xs.length - k) (valsLs (xs.drop k)) := by
  have := (ls_reads h).cut hk hc
  have e : (valsLs xs).drop (k * 6) = valsLs (xs.drop k) := by unfold valsLs; rw [← List.map_drop, flatLs_drop]
  rw [e] at this
  have e2 : Option.map (fun a : Addr => a.add (k * 6)) (some (⟨g, o, none⟩ : Addr)) = some ⟨g, o + k * 6, none⟩ := by
    show some ((⟨g, o, none⟩ : Addr).add (k * 6)) = _
    rw [add_off]
  rwa [e2] at this
theorem own_bothLs {w : World} {base : Nat} {v : Value} {xs : List Lr} {k : Nat} (h : w.ownsRow base 97 6 v (0 + k + (xs.length - (k + 1))) (([] ++ valsLs (xs.take k)) ++ valsLs (xs.drop (k + 1)))) (hk : k < xs.length) : ∃ (b : Option Addr) (cap : Nat), v = .slice b (xs.take k ++ xs.drop (k + 1)).length cap ∧ IsLs w b (xs.take k ++ xs.drop (k + 1)) := by
  have hl : (xs.take k ++ xs.drop (k + 1)).length = 0 + k + (xs.length - (k + 1)) := by rw [List.length_append, List.length_take, List.length_drop]; omega
  refine own_lz2 (base := base) ?_
  unfold OwnLz
  rw [hl, valsLs_append]
  rw [List.nil_append] at h
  exact h
theorem own_capLs {w : World} {base n : Nat} {v : Value} {cs : List Value} (h : w.ownsRow base 97 6 v n cs) : ∀ b m c, v = .slice b m c → m ≤ c := fun b m c e => by
  rcases h.2 with ⟨hv, hn⟩ | ⟨g', cap', cur, hv, hg, hb, hc, _⟩
  · rw [hv] at e; injection e with e1 e2 e3; omega
  · rw [hv] at e; injection e with e1 e2 e3; omega
end Go.Proofs.Ytaehemmjemhgpaa
