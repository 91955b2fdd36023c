/- Basins: hours one after the other, what is lacking, rooms and needs. No condition but those stated. -/
import Derived.Test.YtgmmdpdlekpmfaaGrA
namespace Go.Proofs.Ytgmmdpdlekpmfaa

def giveH (held c w : Int) : Int := min w (held + c)
def stepH (room held c w : Int) : Int := min room (held + c - giveH held c w)
def spillH (room held c w : Int) : Int := held + c - giveH held c w - stepH room held c w
/-- hours: what comes and what is wanted -/
abbrev Hrs := List (Int × Int)
def endB (room : Int) : Int → Hrs → Int
  | h, [] => h
  | h, x :: t => endB room (stepH room h x.1 x.2) t
/-- what is wanted and not given -/
def shortB (room : Int) : Int → Hrs → Int
  | _, [] => 0
  | h, x :: t => (x.2 - giveH h x.1 x.2) + shortB room (stepH room h x.1 x.2) t
def giveB (room : Int) : Int → Hrs → Int
  | _, [] => 0
  | h, x :: t => giveH h x.1 x.2 + giveB room (stepH room h x.1 x.2) t
def spillB (room : Int) : Int → Hrs → Int
  | _, [] => 0
  | h, x :: t => spillH room h x.1 x.2 + spillB room (stepH room h x.1 x.2) t
def comeS : Hrs → Int
  | [] => 0
  | x :: t => x.1 + comeS t
def wantS : Hrs → Int
  | [] => 0
  | x :: t => x.2 + wantS t
def HOk (l : Hrs) : Prop := ∀ x ∈ l, 0 ≤ x.1 ∧ 0 ≤ x.2
theorem hok_cons {x : Int × Int} {t : Hrs} (h : HOk (x :: t)) : 0 ≤ x.1 ∧ 0 ≤ x.2 ∧ HOk t := ⟨(h x (by simp)).1, (h x (by simp)).2, fun y hy => h y (by simp [hy])⟩
theorem step_bd {room held c w : Int} (h : 0 ≤ held ∧ held ≤ room) (hc : 0 ≤ c) (hw : 0 ≤ w) : 0 ≤ stepH room held c w ∧ stepH room held c w ≤ room ∧ 0 ≤ giveH held c w ∧ giveH held c w ≤ w ∧ 0 ≤ spillH room held c w := by
  unfold spillH stepH giveH; omega
/-- P67: days are hours -/
theorem end_append (room : Int) : ∀ (A B : Hrs) (h : Int), endB room h (A ++ B) = endB room (endB room h A) B := by
  intro A
  induction A with
  | nil => intro B h; rfl
  | cons x t ih => intro B h; exact ih B _
/-- P68: all water is accounted for -/
theorem water (room : Int) : ∀ (l : Hrs) (h : Int), h + comeS l = giveB room h l + spillB room h l + endB room h l := by
  intro l
  induction l with
  | nil => intro h; show h + 0 = 0 + 0 + h; omega
  | cons x t ih =>
    intro h
    have := ih (stepH room h x.1 x.2)
    show h + (x.1 + comeS t) = (giveH h x.1 x.2 + giveB room _ t) + (spillH room h x.1 x.2 + spillB room _ t) + endB room _ t
    unfold spillH
    omega
theorem short_give (room : Int) : ∀ (l : Hrs) (h : Int), shortB room h l + giveB room h l = wantS l := by
  intro l
  induction l with
  | nil => intro h; rfl
  | cons x t ih =>
    intro h
    have := ih (stepH room h x.1 x.2)
    show (x.2 - giveH h x.1 x.2 + shortB room _ t) + (giveH h x.1 x.2 + giveB room _ t) = x.2 + wantS t
    omega
/-- with more room and more water: more is given and held -/
theorem more {room room2 : Int} (hr : room ≤ room2) : ∀ (l : Hrs) (h h2 : Int), HOk l → 0 ≤ h → h ≤ room → h ≤ h2 → h2 ≤ room2 → endB room h l ≤ endB room2 h2 l ∧ giveB room h l ≤ giveB room2 h2 l := by
  intro l
  induction l with
  | nil => intro h h2 _ _ _ e _; exact ⟨e, Int.le_refl _⟩
  | cons x t ih =>
    intro h h2 ho a b e d
    obtain ⟨c1, c2, c3⟩ := hok_cons ho
    have s1 := step_bd (room := room) ⟨a, b⟩ c1 c2
    have s2 := step_bd (room := room2) (held := h2) ⟨by omega, d⟩ c1 c2
    have m : stepH room h x.1 x.2 ≤ stepH room2 h2 x.1 x.2 ∧ giveH h x.1 x.2 ≤ giveH h2 x.1 x.2 := by unfold stepH giveH; omega
    have := ih (stepH room h x.1 x.2) (stepH room2 h2 x.1 x.2) c3 s1.1 s1.2.1 m.1 s2.2.1
    refine ⟨this.1, ?_⟩
    show giveH h x.1 x.2 + giveB room _ t ≤ giveH h2 x.1 x.2 + giveB room2 _ t
    omega
/-- P70: more water, or more room, lacks less -/
theorem short_more {room room2 : Int} (hr : room ≤ room2) {l : Hrs} (ho : HOk l) {h h2 : Int} (a : 0 ≤ h) (b : h ≤ room) (e : h ≤ h2) (d : h2 ≤ room2) : shortB room2 h2 l ≤ shortB room h l := by
  have := (more hr l h h2 ho a b e d).2
  have x := short_give room l h
  have y := short_give room2 l h2
  omega
/-- P69: larger basins spill less -/
theorem spill_less {room room2 : Int} (hr : room ≤ room2) {l : Hrs} (ho : HOk l) {h : Int} (a : 0 ≤ h) (b : h ≤ room) : spillB room2 h l ≤ spillB room h l := by
  have := more hr l h h ho a b (Int.le_refl _) (by omega)
  have x := water room l h
  have y := water room2 l h
  omega
theorem short_nonneg {room : Int} : ∀ (l : Hrs) (h : Int), HOk l → 0 ≤ h → h ≤ room → 0 ≤ shortB room h l := by
  intro l
  induction l with
  | nil => intro h _ _ _; exact Int.le_refl _
  | cons x t ih =>
    intro h ho a b
    obtain ⟨c1, c2, c3⟩ := hok_cons ho
    have s1 := step_bd (room := room) ⟨a, b⟩ c1 c2
    have := ih _ c3 s1.1 s1.2.1
    show 0 ≤ (x.2 - giveH h x.1 x.2) + shortB room _ t
    omega
theorem give_bd {room : Int} : ∀ (l : Hrs) (h : Int), HOk l → 0 ≤ h → h ≤ room → 0 ≤ spillB room h l ∧ 0 ≤ endB room h l := by
  intro l
  induction l with
  | nil => intro h _ a _; exact ⟨Int.le_refl _, a⟩
  | cons x t ih =>
    intro h ho a b
    obtain ⟨c1, c2, c3⟩ := hok_cons ho
    have s1 := step_bd (room := room) ⟨a, b⟩ c1 c2
    have := ih _ c3 s1.1 s1.2.1
    exact ⟨by show 0 ≤ spillH room h x.1 x.2 + spillB room _ t; omega, this.2⟩
/-- P70: at least what is wanted less all that there is -/
theorem short_least {room h : Int} {l : Hrs} (ho : HOk l) (a : 0 ≤ h) (b : h ≤ room) : wantS l - comeS l - h ≤ shortB room h l := by
  have x := water room l h
  have y := short_give room l h
  have z := give_bd l h ho a b
  omega
/-- the need so far -/
def nowH (n c w : Int) : Int := max 0 (n + w - c)
/-- the deepest need from a need n on -/
def deepB : Int → Hrs → Int
  | n, [] => n
  | n, x :: t => max n (deepB (nowH n x.1 x.2) t)
theorem deep_ge : ∀ (l : Hrs) (n : Int), n ≤ deepB n l := by
  intro l
  cases l with
  | nil => intro n; exact Int.le_refl _
  | cons x t => intro n; show n ≤ max n _; omega
/-- P73: nothing is lacking exactly if the room is at least the deepest need; n: what lacks in the basin at first -/
theorem deep_iff {room : Int} : ∀ (l : Hrs) (n : Int), HOk l → 0 ≤ n → n ≤ room → (shortB room (room - n) l = 0 ↔ deepB n l ≤ room) := by
  intro l
  induction l with
  | nil => intro n _ _ b; exact ⟨fun _ => b, fun _ => rfl⟩
  | cons x t ih =>
    intro n ho a b
    obtain ⟨c1, c2, c3⟩ := hok_cons ho
    have s1 := step_bd (room := room) (held := room - n) ⟨by omega, by omega⟩ c1 c2
    have sn := short_nonneg (room := room) t _ c3 s1.1 s1.2.1
    show (x.2 - giveH (room - n) x.1 x.2) + shortB room (stepH room (room - n) x.1 x.2) t = 0 ↔ max n (deepB (nowH n x.1 x.2) t) ≤ room
    by_cases h : n + x.2 - x.1 ≤ room
    · have e : stepH room (room - n) x.1 x.2 = room - nowH n x.1 x.2 := by unfold stepH giveH nowH; omega
      have g : giveH (room - n) x.1 x.2 = x.2 := by unfold giveH; omega
      have := ih (nowH n x.1 x.2) c3 (by unfold nowH; omega) (by unfold nowH; omega)
      rw [e, g]
      constructor
      · intro q; have := this.1 (by omega); omega
      · intro q; have := this.2 (by omega); omega
    · have g : giveH (room - n) x.1 x.2 < x.2 := by unfold giveH; omega
      have dg := deep_ge t (nowH n x.1 x.2)
      have nn : room < nowH n x.1 x.2 := by unfold nowH; omega
      constructor
      · intro q; omega
      · intro q; omega
/-- P72, P74: what DeepestNeed tells is enough water, in every basin that has room for it -/
theorem deep_held {room : Int} {l : Hrs} (ho : HOk l) (hd : deepB 0 l ≤ room) : shortB room (deepB 0 l) l = 0 := by
  have d0 := deep_ge l 0
  have h1 := (deep_iff (room := deepB 0 l) l 0 ho (Int.le_refl _) d0).2 (Int.le_refl _)
  rw [Int.sub_zero] at h1
  have h2 := short_more hd ho d0 (Int.le_refl _) (Int.le_refl _) hd
  have h3 := short_nonneg (room := room) l (deepB 0 l) ho d0 hd
  omega
end Go.Proofs.Ytgmmdpdlekpmfaa
