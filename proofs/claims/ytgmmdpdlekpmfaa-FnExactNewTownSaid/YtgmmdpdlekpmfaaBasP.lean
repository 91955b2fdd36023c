/- Basins as lists of numbers: what is given and what spills in each hour, searches for the least and the greatest number. No condition but those stated. -/
import Derived.Test.YtgmmdpdlekpmfaaBas
import Derived.Test.YtgmmdpdlekpmfaaGrA
namespace Go.Proofs.Ytgmmdpdlekpmfaa
set_option linter.unusedSimpArgs false
set_option linter.unusedVariables false

/-- the hours of two lists -/
def hrs (cs ws : List Int) : Hrs := cs.zip ws
def givesL (room : Int) : Int → Hrs → List Int
  | _, [] => []
  | h, x :: t => giveH h x.1 x.2 :: givesL room (stepH room h x.1 x.2) t
def spillsL (room : Int) : Int → Hrs → List Int
  | _, [] => []
  | h, x :: t => spillH room h x.1 x.2 :: spillsL room (stepH room h x.1 x.2) t
theorem gives_sum (room : Int) : ∀ (l : Hrs) (h : Int), (givesL room h l).sum = giveB room h l := by
  intro l
  induction l with
  | nil => intro h; rfl
  | cons x t ih => intro h; show (giveH h x.1 x.2 :: givesL room _ t).sum = _ + _; rw [List.sum_cons, ih]
theorem spills_sum (room : Int) : ∀ (l : Hrs) (h : Int), (spillsL room h l).sum = spillB room h l := by
  intro l
  induction l with
  | nil => intro h; rfl
  | cons x t ih => intro h; show (spillH room h x.1 x.2 :: spillsL room _ t).sum = _ + _; rw [List.sum_cons, ih]
theorem gives_append (room : Int) : ∀ (A B : Hrs) (h : Int), givesL room h (A ++ B) = givesL room h A ++ givesL room (endB room h A) B := by
  intro A
  induction A with
  | nil => intro B h; rfl
  | cons x t ih => intro B h; show _ :: givesL room _ (t ++ B) = _ :: (givesL room _ t ++ _); rw [ih]; rfl
theorem spills_append (room : Int) : ∀ (A B : Hrs) (h : Int), spillsL room h (A ++ B) = spillsL room h A ++ spillsL room (endB room h A) B := by
  intro A
  induction A with
  | nil => intro B h; rfl
  | cons x t ih => intro B h; show _ :: spillsL room _ (t ++ B) = _ :: (spillsL room _ t ++ _); rw [ih]; rfl
theorem gives_len (room : Int) : ∀ (l : Hrs) (h : Int), (givesL room h l).length = l.length := by
  intro l
  induction l with
  | nil => intro h; rfl
  | cons x t ih => intro h; show _ + 1 = _; rw [ih]; rfl
theorem spills_len (room : Int) : ∀ (l : Hrs) (h : Int), (spillsL room h l).length = l.length := by
  intro l
  induction l with
  | nil => intro h; rfl
  | cons x t ih => intro h; show _ + 1 = _; rw [ih]; rfl
theorem hrs_len {cs ws : List Int} (h : ws.length = cs.length) : (hrs cs ws).length = cs.length := by unfold hrs; rw [List.length_zip]; omega
theorem hrs_take {cs ws : List Int} (h : ws.length = cs.length) {k : Nat} (hk : k < cs.length) : (hrs cs ws).take (k + 1) = (hrs cs ws).take k ++ [(cs.getD k 0, ws.getD k 0)] := by
  have hl := hrs_len h
  rw [List.take_succ_eq_append_getElem (by omega)]
  congr 2
  unfold hrs
  rw [List.getElem_zip, List.getD_eq_getElem?_getD, List.getD_eq_getElem?_getD, List.getElem?_eq_getElem hk, List.getElem?_eq_getElem (by omega)]
  rfl
theorem end_take {cs ws : List Int} (h : ws.length = cs.length) {k : Nat} (hk : k < cs.length) (room h0 : Int) : endB room h0 ((hrs cs ws).take (k + 1)) = stepH room (endB room h0 ((hrs cs ws).take k)) (cs.getD k 0) (ws.getD k 0) := by
  rw [hrs_take h hk, end_append]; rfl
theorem gives_take {cs ws : List Int} (h : ws.length = cs.length) {k : Nat} (hk : k < cs.length) (room h0 : Int) : givesL room h0 ((hrs cs ws).take (k + 1)) = givesL room h0 ((hrs cs ws).take k) ++ [giveH (endB room h0 ((hrs cs ws).take k)) (cs.getD k 0) (ws.getD k 0)] := by
  rw [hrs_take h hk, gives_append]; rfl
theorem spills_take {cs ws : List Int} (h : ws.length = cs.length) {k : Nat} (hk : k < cs.length) (room h0 : Int) : spillsL room h0 ((hrs cs ws).take (k + 1)) = spillsL room h0 ((hrs cs ws).take k) ++ [spillH room (endB room h0 ((hrs cs ws).take k)) (cs.getD k 0) (ws.getD k 0)] := by
  rw [hrs_take h hk, spills_append]; rfl
theorem hrs_all {cs ws : List Int} (h : ws.length = cs.length) : (hrs cs ws).take cs.length = hrs cs ws := List.take_of_length_le (by rw [hrs_len h]; exact Nat.le_refl _)
theorem want_sum : ∀ {cs ws : List Int}, ws.length = cs.length → wantS (hrs cs ws) = ws.sum := by
  intro cs
  induction cs with
  | nil => intro ws h; cases ws with | nil => rfl | cons x t => simp at h
  | cons x t ih => intro ws h; cases ws with
    | nil => simp at h
    | cons y s => show y + wantS (hrs t s) = _; rw [List.sum_cons, ih (by simpa using h)]
theorem come_sum : ∀ {cs ws : List Int}, ws.length = cs.length → comeS (hrs cs ws) = cs.sum := by
  intro cs
  induction cs with
  | nil => intro ws h; cases ws with | nil => rfl | cons x t => simp at h
  | cons x t ih => intro ws h; cases ws with
    | nil => simp at h
    | cons y s => show x + comeS (hrs t s) = _; rw [List.sum_cons, ih (by simpa using h)]
/-- a valid basin -/
def vbB (room held : Int) : Bool := decide (0 ≤ room) && (decide (room ≤ 20000) && (decide (0 ≤ held) && decide (held ≤ room)))
theorem vb_iff {room held : Int} : vbB room held = true ↔ 0 ≤ room ∧ room ≤ 20000 ∧ 0 ≤ held ∧ held ≤ room := by unfold vbB; simp
theorem vb_no {room held : Int} (h : ¬ (0 ≤ room ∧ room ≤ 20000 ∧ 0 ≤ held ∧ held ≤ room)) : vbB room held = false := by
  rw [Bool.eq_false_iff]; intro k; exact h (vb_iff.1 k)
/-- valid flows -/
def vfl (zs : List Int) : Bool := decide (zs.length ≤ 200) && allB zs 500
/-- valid hours -/
def vdB (cs ws : List Int) : Bool := vfl cs && (vfl ws && decide (cs.length = ws.length))
theorem vfl_is {zs : List Int} (h : vfl zs = true) : zs.length ≤ 200 ∧ ∀ z ∈ zs, 0 ≤ z ∧ z ≤ 500 := by
  unfold vfl at h; rw [Bool.and_eq_true, decide_eq_true_eq, allB_iff] at h; exact h
theorem vd_is {cs ws : List Int} (h : vdB cs ws = true) : vfl cs = true ∧ vfl ws = true ∧ ws.length = cs.length := by
  unfold vdB at h; rw [Bool.and_eq_true, Bool.and_eq_true, decide_eq_true_eq] at h; exact ⟨h.1, h.2.1, h.2.2.symm⟩
theorem hok_hrs {cs ws : List Int} (hc : vfl cs = true) (hw : vfl ws = true) : HOk (hrs cs ws) := by
  intro x hx
  unfold hrs at hx
  have := List.of_mem_zip (a := x.1) (b := x.2) hx
  exact ⟨((vfl_is hc).2 _ this.1).1, ((vfl_is hw).2 _ this.2).1⟩
theorem hok_take {l : Hrs} (h : HOk l) (k : Nat) : HOk (l.take k) := fun x hx => h x (List.mem_of_mem_take hx)
theorem end_bd {room : Int} : ∀ (l : Hrs) (h : Int), HOk l → 0 ≤ h → h ≤ room → 0 ≤ endB room h l ∧ endB room h l ≤ room := by
  intro l
  induction l with
  | nil => intro h _ a b; exact ⟨a, b⟩
  | cons x t ih =>
    intro h ho a b
    obtain ⟨c1, c2, c3⟩ := hok_cons ho
    have s1 := step_bd (room := room) ⟨a, b⟩ c1 c2
    exact ih _ c3 s1.1 s1.2.1
/-- what is given in hours: at most what is wanted -/
theorem gives_bd {room : Int} : ∀ (l : Hrs) (h : Int) (m : Int), HOk l → (∀ x ∈ l, x.2 ≤ m) → 0 ≤ h → h ≤ room → ∀ z ∈ givesL room h l, 0 ≤ z ∧ z ≤ m := by
  intro l
  induction l with
  | nil => intro h m _ _ _ _ z hz; simp [givesL] at hz
  | cons x t ih =>
    intro h m ho hm a b z hz
    obtain ⟨c1, c2, c3⟩ := hok_cons ho
    have s1 := step_bd (room := room) ⟨a, b⟩ c1 c2
    rcases List.mem_cons.1 (show z ∈ giveH h x.1 x.2 :: givesL room _ t from hz) with rfl | hz
    · have := hm x (by simp); omega
    · exact ih _ m c3 (fun y hy => hm y (by simp [hy])) s1.1 s1.2.1 z hz
theorem spills_bd {room : Int} : ∀ (l : Hrs) (h : Int) (m : Int), HOk l → (∀ x ∈ l, x.1 ≤ m) → 0 ≤ h → h ≤ room → ∀ z ∈ spillsL room h l, 0 ≤ z ∧ z ≤ m := by
  intro l
  induction l with
  | nil => intro h m _ _ _ _ z hz; simp [spillsL] at hz
  | cons x t ih =>
    intro h m ho hm a b z hz
    obtain ⟨c1, c2, c3⟩ := hok_cons ho
    have s1 := step_bd (room := room) ⟨a, b⟩ c1 c2
    rcases List.mem_cons.1 (show z ∈ spillH room h x.1 x.2 :: spillsL room _ t from hz) with rfl | hz
    · have := hm x (by simp)
      refine ⟨s1.2.2.2.2, ?_⟩
      unfold spillH stepH giveH; omega
    · exact ih _ m c3 (fun y hy => hm y (by simp [hy])) s1.1 s1.2.1 z hz
theorem sum_nonneg {zs : List Int} (h : ∀ z ∈ zs, 0 ≤ z) : 0 ≤ zs.sum := by
  induction zs with
  | nil => exact Int.le_refl _
  | cons x t ih =>
    rw [List.sum_cons]
    have := ih (fun z hz => h z (by simp [hz]))
    have := h x (by simp)
    omega
theorem sum_le {zs : List Int} {m : Int} (h : ∀ z ∈ zs, z ≤ m) : zs.sum ≤ m * zs.length := by
  induction zs with
  | nil => simp
  | cons x t ih =>
    rw [List.sum_cons, List.length_cons]
    have := ih (fun z hz => h z (by simp [hz]))
    have := h x (by simp)
    have e : m * ((t.length + 1 : Nat) : Int) = m * (t.length : Int) + m := by rw [Int.natCast_add, Int.mul_add]; simp
    omega
/-- the sums of the first numbers -/
def sumsF (n : Int) : List Int → List Int
  | [] => []
  | x :: t => (n + x) :: sumsF (n + x) t
theorem sums_append : ∀ (A B : List Int) (n : Int), sumsF n (A ++ B) = sumsF n A ++ sumsF (n + A.sum) B := by
  intro A
  induction A with
  | nil => intro B n; show sumsF n B = sumsF (n + 0) B; rw [Int.add_zero]
  | cons x t ih => intro B n; show _ :: sumsF _ (t ++ B) = _ :: (sumsF _ t ++ _); rw [ih, List.sum_cons, Int.add_assoc]
theorem sums_len : ∀ (A : List Int) (n : Int), (sumsF n A).length = A.length := by
  intro A
  induction A with
  | nil => intro n; rfl
  | cons x t ih => intro n; show _ + 1 = _; rw [ih]; rfl
theorem sums_take {zs : List Int} {k : Nat} (hk : k < zs.length) : sumsF 0 (zs.take (k + 1)) = sumsF 0 (zs.take k) ++ [(zs.take k).sum + zs.getD k 0] := by
  have e : zs.take (k + 1) = zs.take k ++ [zs.getD k 0] := by
    rw [List.take_succ_eq_append_getElem hk, List.getD_eq_getElem?_getD, List.getElem?_eq_getElem hk]; rfl
  rw [e, sums_append]
  show _ = _
  rw [show sumsF (0 + (zs.take k).sum) [zs.getD k 0] = [0 + (zs.take k).sum + zs.getD k 0] from rfl, Int.zero_add]
theorem sums_get : ∀ (zs : List Int) (n : Int) (k : Nat), k < zs.length → (sumsF n zs).getD k 0 = n + (zs.take (k + 1)).sum := by
  intro zs
  induction zs with
  | nil => intro n k h; simp at h
  | cons x t ih =>
    intro n k h
    cases k with
    | zero => show n + x = n + (x :: []).sum; simp
    | succ k =>
      show (sumsF (n + x) t).getD k 0 = n + (x :: t.take (k + 1)).sum
      rw [ih _ _ (by simpa using h), List.sum_cons, Int.add_assoc]
/-- the least number from lo on, and below lo + n, of which p holds -/
def leastN (p : Int → Bool) : Int → Nat → Int
  | lo, 0 => lo
  | lo, n + 1 => if p lo then lo else leastN p (lo + 1) n
theorem least_eq (p : Int → Bool) : ∀ (n : Nat) (lo r : Int), lo ≤ r → r ≤ lo + n → p r = true → (∀ x, lo ≤ x → x < r → p x = false) → leastN p lo n = r := by
  intro n
  induction n with
  | zero => intro lo r a b _ _; show lo = r; omega
  | succ n ih =>
    intro lo r a b h hx
    show (if p lo then lo else leastN p (lo + 1) n) = r
    by_cases e : lo = r
    · subst e; rw [if_pos h]
    · rw [if_neg (by rw [hx lo (Int.le_refl _) (by omega)]; decide)]
      exact ih _ _ (by omega) (by omega) h (fun x x1 x2 => hx x (by omega) x2)
theorem least_is (p : Int → Bool) : ∀ (n : Nat) (lo : Int), p (lo + n) = true → lo ≤ leastN p lo n ∧ leastN p lo n ≤ lo + n ∧ p (leastN p lo n) = true ∧ ∀ x, lo ≤ x → x < leastN p lo n → p x = false := by
  intro n
  induction n with
  | zero => intro lo h; refine ⟨Int.le_refl _, by show lo ≤ _; omega, by show p lo = true; simpa using h, fun x a b => ?_⟩; have : leastN p lo 0 = lo := rfl; omega
  | succ n ih =>
    intro lo h
    by_cases e : p lo = true
    · have q : leastN p lo (n + 1) = lo := by show (if p lo then lo else _) = lo; rw [if_pos e]
      rw [q]; exact ⟨Int.le_refl _, by omega, e, fun x a b => by omega⟩
    · have q : leastN p lo (n + 1) = leastN p (lo + 1) n := by show (if p lo then lo else _) = _; rw [if_neg e]
      rw [q]
      obtain ⟨a, b, c, d⟩ := ih (lo + 1) (by rw [show lo + 1 + (n : Int) = lo + ((n + 1 : Nat) : Int) from by omega]; exact h)
      refine ⟨by omega, by omega, c, fun x x1 x2 => ?_⟩
      by_cases ex : x = lo
      · subst ex; simpa using e
      · exact d x (by omega) x2
/-- nothing lacks with so much room -/
def roomOk (held : Int) (cs ws : List Int) (r : Int) : Bool := decide (shortB r held (hrs cs ws) = 0)
def heldOk (room : Int) (cs ws : List Int) (x : Int) : Bool := decide (shortB room x (hrs cs ws) = 0)
def flowOk (room held : Int) (cs : List Int) (n : Int) : Bool := decide (shortB room held (hrs cs (List.replicate cs.length n)) = 0)
def runBa (room held : Int) (cs ws : List Int) : Bool := vbB room held && vdB cs ws
def shortV (room held : Int) (cs ws : List Int) : Int := if runBa room held cs ws then shortB room held (hrs cs ws) else -1
def lroomV (held : Int) (cs ws : List Int) : Int := if runBa 20000 held cs ws && roomOk held cs ws 20000 then leastN (roomOk held cs ws) held (20000 - held).toNat else -1
def lheldV (room : Int) (cs ws : List Int) : Int := if runBa room room cs ws && heldOk room cs ws room then leastN (heldOk room cs ws) 0 room.toNat else -1
/-- the greatest flow up to 500: 500 less the least distance from it -/
def sureV (room held : Int) (cs : List Int) : Int := if vbB room held && vfl cs then 500 - leastN (fun x => flowOk room held cs (500 - x)) 0 500 else -1
def deepV (cs ws : List Int) : Int := if vdB cs ws then deepB 0 (hrs cs ws) else -1
def sumsV (zs : List Int) : List Int := if vfl zs then sumsF 0 zs else []
def runL (room held : Int) (cs ws : List Int) : List Int := if runBa room held cs ws then givesL room held (hrs cs ws) else []
def spiL (room held : Int) (cs ws : List Int) : List Int := if runBa room held cs ws then spillsL room held (hrs cs ws) else []
def runR (room held : Int) (cs ws : List Int) : Int := if runBa room held cs ws then room else 0
def runH (room held : Int) (cs ws : List Int) : Int := if runBa room held cs ws then endB room held (hrs cs ws) else 0
theorem run_is {room held : Int} {cs ws : List Int} (h : runBa room held cs ws = true) : (0 ≤ room ∧ room ≤ 20000 ∧ 0 ≤ held ∧ held ≤ room) ∧ vfl cs = true ∧ vfl ws = true ∧ ws.length = cs.length := by
  unfold runBa at h; rw [Bool.and_eq_true] at h; exact ⟨vb_iff.1 h.1, vd_is h.2⟩
/-- a basin from which nothing is wanted lacks nothing -/
theorem flow_zero {room held : Int} (hb : 0 ≤ held ∧ held ≤ room) : ∀ {cs : List Int}, (∀ c ∈ cs, 0 ≤ c) → flowOk room held cs 0 = true := by
  intro cs hc
  unfold flowOk
  rw [decide_eq_true_eq]
  have : ∀ (cs : List Int) (h : Int), (∀ c ∈ cs, 0 ≤ c) → 0 ≤ h → h ≤ room → shortB room h (hrs cs (List.replicate cs.length 0)) = 0 := by
    intro cs
    induction cs with
    | nil => intro h _ _ _; rfl
    | cons x t ih =>
      intro h hc a b
      have c0 := hc x (by simp)
      show (0 - giveH h x 0) + shortB room (stepH room h x 0) (hrs t (List.replicate t.length 0)) = 0
      have s1 := step_bd (room := room) (held := h) (c := x) (w := 0) ⟨a, b⟩ c0 (by omega)
      rw [ih _ (fun c h => hc c (by simp [h])) s1.1 s1.2.1]
      unfold giveH; omega
  exact this cs held hc hb.1 hb.2
/-- where a greater flow is sure, a smaller one is -/
theorem flow_less {room held : Int} (hb : 0 ≤ held ∧ held ≤ room) {cs : List Int} (hc : ∀ c ∈ cs, 0 ≤ c) {m n : Int} (h0 : 0 ≤ m) (hmn : m ≤ n) (h : flowOk room held cs n = true) : flowOk room held cs m = true := by
  unfold flowOk at *
  rw [decide_eq_true_eq] at *
  have : ∀ (cs : List Int) (h h2 : Int), (∀ c ∈ cs, 0 ≤ c) → 0 ≤ h → h ≤ h2 → h2 ≤ room → shortB room h (hrs cs (List.replicate cs.length n)) = 0 → shortB room h2 (hrs cs (List.replicate cs.length m)) = 0 := by
    intro cs
    induction cs with
    | nil => intro h _ _ _ _ _ _; rfl
    | cons x t ih =>
      intro h h2 hc a b d e
      have c0 := hc x (by simp)
      have s1 := step_bd (room := room) (held := h) (c := x) (w := n) ⟨a, by omega⟩ c0 (by omega)
      have s2 := step_bd (room := room) (held := h2) (c := x) (w := m) ⟨by omega, d⟩ c0 (by omega)
      have e : (n - giveH h x n) + shortB room (stepH room h x n) (hrs t (List.replicate t.length n)) = 0 := e
      show (m - giveH h2 x m) + shortB room (stepH room h2 x m) (hrs t (List.replicate t.length m)) = 0
      have sn := short_nonneg (room := room) (hrs t (List.replicate t.length n)) (stepH room h x n) (fun y hy => by
        have := List.of_mem_zip (a := y.1) (b := y.2) hy
        refine ⟨hc _ (by simp [this.1]), ?_⟩
        have := List.eq_of_mem_replicate this.2
        omega) s1.1 s1.2.1
      have g : giveH h x n = n := by omega
      have g2 : giveH h2 x m = m := by unfold giveH at *; omega
      rw [ih (stepH room h x n) (stepH room h2 x m) (fun c h => hc c (by simp [h])) s1.1 (by unfold stepH; rw [g, g2]; omega) s2.2.1 (by omega), g2]
      omega
  exact this cs held held hc hb.1 (Int.le_refl _) hb.2 h
theorem room_more {held : Int} {cs ws : List Int} (ho : HOk (hrs cs ws)) (h0 : 0 ≤ held) {a b : Int} (ha : held ≤ a) (hab : a ≤ b) (h : roomOk held cs ws a = true) : roomOk held cs ws b = true := by
  unfold roomOk at *; rw [decide_eq_true_eq] at *
  have := short_more hab ho h0 ha (Int.le_refl held) (by omega)
  have := short_nonneg (room := b) (hrs cs ws) held ho h0 (by omega)
  omega
theorem held_more {room : Int} {cs ws : List Int} (ho : HOk (hrs cs ws)) {a b : Int} (ha : 0 ≤ a) (hab : a ≤ b) (hb : b ≤ room) (h : heldOk room cs ws a = true) : heldOk room cs ws b = true := by
  unfold heldOk at *; rw [decide_eq_true_eq] at *
  have := short_more (Int.le_refl room) ho ha (by omega) hab hb
  have := short_nonneg (room := room) (hrs cs ws) b ho (by omega) hb
  omega
/-- the loop of DeepestNeed -/
theorem deep_take {cs ws : List Int} (h : ws.length = cs.length) {k : Nat} (hk : k < cs.length) : (hrs cs ws).drop k = (cs.getD k 0, ws.getD k 0) :: (hrs cs ws).drop (k + 1) := by
  have hl := hrs_len h
  rw [List.drop_eq_getElem_cons (by omega)]
  congr 1
  unfold hrs
  rw [List.getElem_zip, List.getD_eq_getElem?_getD, List.getD_eq_getElem?_getD, List.getElem?_eq_getElem hk, List.getElem?_eq_getElem (by omega)]
  rfl
theorem deep_step {best now c w : Int} (t : Hrs) (h : now ≤ best) : max best (deepB now ((c, w) :: t)) = max (max best (nowH now c w)) (deepB (nowH now c w) t) := by
  have := deep_ge t (nowH now c w)
  show max best (max now (deepB (nowH now c w) t)) = _
  omega
end Go.Proofs.Ytgmmdpdlekpmfaa
