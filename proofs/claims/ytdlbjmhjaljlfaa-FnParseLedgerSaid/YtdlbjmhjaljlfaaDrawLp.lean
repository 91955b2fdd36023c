/- The texts of ledgers that the laws draw. No condition but those stated. -/
import Derived.Test.YtdlbjmhjaljlfaaDrawHi
import Derived.Test.YtdlbjmhjaljlfaaDrawS
import Derived.Test.YtdlbjmhjaljlfaaLgtG
namespace Go.Proofs.Ytdlbjmhjaljlfaa
open Go.RowKit
set_option linter.unusedSimpArgs false
set_option linter.unusedVariables false
theorem own_hc {w : World} {base : Nat} {v : Value} {k : Nat} {hs : List Hd} (h : w.ownsRow base 85 3 v k (valsH hs)) (hl : hs.length = k) (hk : 1 ≤ k) : ∃ (g cp : Nat), v = .slice (some ⟨g, 0, none⟩) hs.length cp ∧ ∀ i, i < hs.length → w.cell? ⟨g, 0 + i * 3, none⟩ = some (.int .i64 (hs.getD i hd0).1) ∧ w.cell? ⟨g, 0 + i * 3 + 1, none⟩ = some (.int .i64 (hs.getD i hd0).2.1) ∧ w.cell? ⟨g, 0 + i * 3 + 2, none⟩ = some (.int .i64 (hs.getD i hd0).2.2) := by
  subst hl
  obtain ⟨g, cp, rfl, _⟩ := h.form hk
  obtain ⟨b, c, e, hI⟩ := own_hs (hs := hs) h
  injection e with e1 e2 e3
  subst e1
  rcases hI with hI | ⟨g', o', e4, hc⟩
  · rw [hI] at hk; simp at hk
  · injection e4 with e4
    injection e4 with e5 e6
    subst e5 e6
    exact ⟨g, cp, rfl, hc⟩
/-- what DrawParseLedger leaves -/
def DrawnPL (w : World) (e : Ending) (w' : World) : Prop := ∃ s : ByteArray, e = .returned (.string s) ∧ s.size ≤ 1001 ∧ Below w.heap.size w w'
set_option maxRecDepth 100000 in
set_option maxHeartbeats 1000000 in
theorem drawParseLedger (a : Option Addr) (len cap : Nat) (zs : List Int) (w : World) (h : IsRow .u8 w a len cap zs) :
    Calls Try.prog 29 #[.slice a len cap] w (DrawnPL w) := by
  go_enter Try.func29, Try.ntmps29
  go_wp2_with fail
  refine (newReader_any a len cap zs _ h).mono ?_
  rintro e w1 ⟨rfl, hR, hB, hb⟩
  go_wp2_with fail
  refine (someHx _ 0 _ hR (by omega) hb).mono ?_
  rintro e w2 ⟨u, k, hs, rfl, k1, k6, hO, hxl, hR2, hG2, hbd⟩
  have hb2 := Nat.lt_of_lt_of_le hb hG2.size
  have hB2 := below_grown hB hG2 (by omega)
  obtain ⟨g, cp, rfl, hc⟩ := own_hc hO hxl k1
  subst hxl
  have hn : hs.length ≤ 6 := by omega
  have hv : ∀ k, k < hs.length → 0 ≤ (hs.getD k hd0).1 ∧ (hs.getD k hd0).1 ≤ 999 ∧ 0 ≤ (hs.getD k hd0).2.1 ∧ (hs.getD k hd0).2.1 ≤ 10000 ∧ 0 ≤ (hs.getD k hd0).2.2 ∧ (hs.getD k hd0).2.2 ≤ 10000 := fun k hk => by
    rw [getD_lt _ hk]; exact hbd _ (List.getElem_mem _)
  have hl := ltk_lenG hv hs.length (Nat.le_refl _)
  rw [ltk_all] at hl
  have hz : (txt (textB hs)).size ≤ 192 := by rw [txt_size]; omega
  have HSH := Lib.hid (sShowG g 0 cp hs w2 hc (by omega) hv)
  clear hG2 hR hB hO hbd hv hc hl hn
  go_wp2_with fail
  refine (HSH.out).mono ?_
  rintro e w3 ⟨rfl, C3⟩
  have hR3 := rd_below hR2 hb2 C3
  have hB3 := bel_tr hB2 C3
  have hb3 := Nat.lt_of_lt_of_le hb2 C3.size
  clear C3 hB2 hR2 HSH
  generalize txt (textB hs) = s at *
  go_wp2_with fail
  refine (pick_any _ _ 3 _ hR3 (by omega)).mono ?_
  rintro e w4 ⟨v, rfl, hv, hR4, hG4⟩
  have hb4 := Nat.lt_of_lt_of_le hb3 hG4.size
  have hB4 := below_grown hB3 hG4 (by omega)
  clear hG4 hR3 hB3 hv
  by_cases v0 : v = 0
  · have e0 : ((v : Int) == 0) = true := by simp [v0]
    clear v0
    go_wp2_with fail
    refine (smutate _ _ s _ hR4 (by omega) hb4 (by omega)).mono ?_
    rintro e w5 ⟨t, rfl, ht, hR5, hG5⟩
    have hB5 := below_grown hB4 hG5 (by omega)
    clear hG5 hR4 hB4
    go_wp2_with fail
    go_ret
    exact ⟨t, rfl, by omega, hB5⟩
  · have e0 : ((v : Int) == 0) = false := by simp; omega
    clear v0
    go_wp2_with fail
    go_ret
    exact ⟨s, rfl, by omega, hB4⟩
end Go.Proofs.Ytdlbjmhjaljlfaa
