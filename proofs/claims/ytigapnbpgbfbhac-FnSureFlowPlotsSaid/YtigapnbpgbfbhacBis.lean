/- Searches for least and greatest numbers (pure). No condition but those stated. -/
import Derived.Test.YtigapnbpgbfbhacBasP
namespace Go.Proofs.Ytigapnbpgbfbhac
set_option linter.unusedVariables false
/-- from a on, up to top: where p holds it holds further up -/
def Up (p : Int → Bool) (a top : Int) : Prop := ∀ x y, a ≤ x → x ≤ y → y ≤ top → p x = true → p y = true
theorem bis_lo {p : Int → Bool} {a top m : Int} (u : Up p a top) (h : p m = false) (hm : m ≤ top) : ∀ x, a ≤ x → x < m + 1 → p x = false := by
  intro x h1 h2
  cases e : p x with
  | false => rfl
  | true => exact absurd (u x m h1 (by omega) hm e) (by rw [h]; decide)
theorem bis_end {p : Int → Bool} {a top lo : Int} (h1 : a ≤ lo) (h2 : lo ≤ top) (h : p lo = true) (hx : ∀ x, a ≤ x → x < lo → p x = false) : leastN p a (top - a).toNat = lo :=
  least_eq p _ a lo h1 (by omega) h hx
theorem up_room {held : Int} {cs ws : List Int} (h : runBa 20000 held cs ws = true) : Up (roomOk held cs ws) held 20000 := by
  obtain ⟨⟨r0, r1, r2, r3⟩, v1, v2, hl⟩ := run_is h
  exact fun x y h1 h2 h3 hx => room_more (hok_hrs v1 v2) r2 h1 h2 hx
theorem up_held {room : Int} {cs ws : List Int} (h : runBa room room cs ws = true) : Up (heldOk room cs ws) 0 room := by
  obtain ⟨⟨r0, r1, r2, r3⟩, v1, v2, hl⟩ := run_is h
  exact fun x y h1 h2 h3 hx => held_more (hok_hrs v1 v2) h1 h2 h3 hx
theorem run_at {r h r' h' : Int} {cs ws : List Int} (e : runBa r h cs ws = true) (h1 : 0 ≤ r') (h2 : r' ≤ 20000) (h3 : 0 ≤ h') (h4 : h' ≤ r') : runBa r' h' cs ws = true := by
  unfold runBa at *
  rw [Bool.and_eq_true] at *
  exact ⟨vb_iff.2 ⟨h1, h2, h3, h4⟩, e.2⟩
theorem short_at {r h : Int} {cs ws : List Int} (e : runBa r h cs ws = true) : shortV r h cs ws = shortB r h (hrs cs ws) ∧ 0 ≤ shortB r h (hrs cs ws) := by
  obtain ⟨⟨r0, r1, r2, r3⟩, v1, v2, hl⟩ := run_is e
  unfold shortV; rw [e]
  exact ⟨rfl, short_nonneg _ _ (hok_hrs v1 v2) r2 r3⟩
theorem lroom_no {held : Int} {cs ws : List Int} (h : shortV 20000 held cs ws ≠ 0) : lroomV held cs ws = -1 := by
  unfold lroomV
  cases e : runBa 20000 held cs ws with
  | false => rfl
  | true =>
    rw [(short_at e).1] at h
    unfold roomOk
    rw [decide_eq_false h]; rfl
theorem lheld_no {room : Int} {cs ws : List Int} (h : shortV room room cs ws ≠ 0) : lheldV room cs ws = -1 := by
  unfold lheldV
  cases e : runBa room room cs ws with
  | false => rfl
  | true =>
    rw [(short_at e).1] at h
    unfold heldOk
    rw [decide_eq_false h]; rfl
theorem short_zero {r h : Int} {cs ws : List Int} (e : shortV r h cs ws = 0) : runBa r h cs ws = true ∧ shortB r h (hrs cs ws) = 0 := by
  unfold shortV at e
  cases c : runBa r h cs ws with
  | false => rw [c] at e; simp at e
  | true => rw [c] at e; exact ⟨rfl, e⟩
theorem lroom_yes {held lo : Int} {cs ws : List Int} (h : runBa 20000 held cs ws = true) (h1 : held ≤ lo) (h2 : lo ≤ 20000) (h3 : roomOk held cs ws lo = true) (hx : ∀ x, held ≤ x → x < lo → roomOk held cs ws x = false) : lroomV held cs ws = lo := by
  unfold lroomV
  rw [h, up_room h lo 20000 h1 h2 (Int.le_refl _) h3]
  exact bis_end h1 h2 h3 hx
theorem lheld_yes {room lo : Int} {cs ws : List Int} (h : runBa room room cs ws = true) (h1 : 0 ≤ lo) (h2 : lo ≤ room) (h3 : heldOk room cs ws lo = true) (hx : ∀ x, 0 ≤ x → x < lo → heldOk room cs ws x = false) : lheldV room cs ws = lo := by
  unfold lheldV
  rw [h, up_held h lo room h1 h2 (Int.le_refl _) h3]
  have := bis_end h1 h2 h3 hx
  rw [Int.sub_zero] at this
  exact this
theorem sure_no {r h : Int} {cs : List Int} (e : vbB r h = false ∨ vfl cs = false) : sureV r h cs = -1 := by
  unfold sureV
  rcases e with e | e <;> rw [e] <;> simp
/-- the greatest sure flow -/
theorem sure_yes {r h lo : Int} {cs : List Int} (hb : vbB r h = true) (hv : vfl cs = true) (h1 : 0 ≤ lo) (h2 : lo ≤ 500) (h3 : flowOk r h cs lo = true) (hx : ∀ x, lo < x → x ≤ 500 → flowOk r h cs x = false) : sureV r h cs = lo := by
  unfold sureV
  rw [hb, hv]
  have := least_eq (fun x => flowOk r h cs (500 - x)) 500 0 (500 - lo) (by omega) (by omega) (by show flowOk r h cs (500 - (500 - lo)) = true; rw [show (500 : Int) - (500 - lo) = lo from by omega]; exact h3) (fun x a b => hx (500 - x) (by omega) (by omega))
  show 500 - _ = lo
  rw [this]; omega
theorem flow_run {r h n : Int} {cs : List Int} (hb : vbB r h = true) (hv : vfl cs = true) (h0 : 0 ≤ n) (h1 : n ≤ 500) : runBa r h cs (List.replicate cs.length n) = true := by
  unfold runBa vdB
  have hl : (List.replicate cs.length n).length = cs.length := by simp
  have : vfl (List.replicate cs.length n) = true := by
    unfold vfl
    rw [Bool.and_eq_true, decide_eq_true_eq, hl, allB_iff]
    refine ⟨(vfl_is hv).1, fun z hz => ?_⟩
    have := List.eq_of_mem_replicate hz
    omega
  rw [hb, hv, this, hl]; simp
theorem flow_dn {r h : Int} {cs : List Int} (hb : vbB r h = true) (hv : vfl cs = true) {m n : Int} (h0 : 0 ≤ m) (hmn : m ≤ n) (e : flowOk r h cs n = true) : flowOk r h cs m = true :=
  flow_less ⟨(vb_iff.1 hb).2.2.1, (vb_iff.1 hb).2.2.2⟩ (fun c hc => ((vfl_is hv).2 c hc).1) h0 hmn e
theorem deep_no {cs ws : List Int} (e : vdB cs ws = false) : deepV cs ws = -1 := by unfold deepV; rw [e]; rfl
theorem deep_yes {cs ws : List Int} (e : vdB cs ws = true) : deepV cs ws = deepB 0 (hrs cs ws) := by unfold deepV; rw [e]; rfl
theorem sums_no {zs : List Int} (e : vfl zs = false) : sumsV zs = [] := by unfold sumsV; rw [e]; rfl
theorem sums_yes {zs : List Int} (e : vfl zs = true) : sumsV zs = sumsF 0 zs := by unfold sumsV; rw [e]; rfl
theorem vfl_take {zs : List Int} (h : vfl zs = true) (k : Nat) : 0 ≤ (zs.take k).sum ∧ (zs.take k).sum ≤ 100000 := by
  obtain ⟨l, hz⟩ := vfl_is h
  have a : ∀ z ∈ zs.take k, 0 ≤ z ∧ z ≤ 500 := fun z m => hz z (List.mem_of_mem_take m)
  have := sum_le (zs := zs.take k) (m := 500) (fun z m => (a z m).2)
  have : (zs.take k).length ≤ 200 := by rw [List.length_take]; omega
  exact ⟨sum_nonneg (fun z m => (a z m).1), by omega⟩
/-- the need so far, of the first k hours -/
def needK (l : Hrs) : Nat → Int
  | 0 => 0
  | k + 1 => nowH (needK l k) (l.getD k (0, 0)).1 (l.getD k (0, 0)).2
def bestK (l : Hrs) : Nat → Int
  | 0 => 0
  | k + 1 => max (bestK l k) (needK l (k + 1))
theorem need_bd {l : Hrs} (h : ∀ x ∈ l, 0 ≤ x.1 ∧ x.1 ≤ 500 ∧ 0 ≤ x.2 ∧ x.2 ≤ 500) : ∀ k, k ≤ l.length → 0 ≤ needK l k ∧ needK l k ≤ 500 * k ∧ needK l k ≤ bestK l k ∧ bestK l k ≤ 500 * k := by
  intro k
  induction k with
  | zero => intro _; exact ⟨Int.le_refl _, Int.le_refl _, Int.le_refl _, Int.le_refl _⟩
  | succ k ih =>
    intro hk
    have := ih (by omega)
    have hm := h (l.getD k (0, 0)) (by rw [List.getD_eq_getElem?_getD, List.getElem?_eq_getElem (by omega)]; simp)
    show 0 ≤ nowH _ _ _ ∧ nowH _ _ _ ≤ _ ∧ nowH _ _ _ ≤ max _ (nowH _ _ _) ∧ max _ (nowH _ _ _) ≤ _
    unfold nowH
    omega
theorem best_deep {l : Hrs} (h : ∀ x ∈ l, 0 ≤ x.1 ∧ x.1 ≤ 500 ∧ 0 ≤ x.2 ∧ x.2 ≤ 500) : ∀ k, k ≤ l.length → deepB 0 l = max (bestK l k) (deepB (needK l k) (l.drop k)) := by
  intro k
  induction k with
  | zero => intro _; have := deep_ge l 0; show _ = max 0 (deepB 0 l); omega
  | succ k ih =>
    intro hk
    have hb := (need_bd h k (by omega)).2.2.1
    rw [ih (by omega), List.drop_eq_getElem_cons (by omega)]
    have e : l[k] = ((l.getD k (0, 0)).1, (l.getD k (0, 0)).2) := by rw [List.getD_eq_getElem?_getD, List.getElem?_eq_getElem (by omega)]; rfl
    rw [e, deep_step _ hb]; rfl
theorem best_end {l : Hrs} (h : ∀ x ∈ l, 0 ≤ x.1 ∧ x.1 ≤ 500 ∧ 0 ≤ x.2 ∧ x.2 ≤ 500) : deepB 0 l = bestK l l.length := by
  rw [best_deep h l.length (Nat.le_refl _), List.drop_length]
  have := (need_bd h l.length (Nat.le_refl _)).2.2.1
  show max _ (needK l l.length) = _
  omega
theorem hrs_get {cs ws : List Int} (h : ws.length = cs.length) {k : Nat} (hk : k < cs.length) : (hrs cs ws).getD k (0, 0) = (cs.getD k 0, ws.getD k 0) := by
  have := deep_take h hk
  have e := List.drop_eq_getElem_cons (l := hrs cs ws) (i := k) (by rw [hrs_len h]; exact hk)
  rw [e] at this
  injection this with a b
  rw [List.getD_eq_getElem?_getD, List.getElem?_eq_getElem (by rw [hrs_len h]; exact hk)]
  exact a
theorem hrs_bd {cs ws : List Int} (e : vdB cs ws = true) : ∀ x ∈ hrs cs ws, 0 ≤ x.1 ∧ x.1 ≤ 500 ∧ 0 ≤ x.2 ∧ x.2 ≤ 500 := by
  obtain ⟨v1, v2, hl⟩ := vd_is e
  intro x hx
  have := List.of_mem_zip (a := x.1) (b := x.2) hx
  have a := (vfl_is v1).2 _ this.1
  have b := (vfl_is v2).2 _ this.2
  exact ⟨a.1, a.2, b.1, b.2⟩
end Go.Proofs.Ytigapnbpgbfbhac
