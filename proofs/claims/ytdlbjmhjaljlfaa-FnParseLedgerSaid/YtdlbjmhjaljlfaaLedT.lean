/- Texts of ledgers. No condition but those stated. -/
import Derived.Test.YtdlbjmhjaljlfaaJoin
namespace Go.Proofs.Ytdlbjmhjaljlfaa

/-- a line: an owner and a fraction -/
def lineB (o n d : Int) : List UInt8 := decL o.toNat ++ 32 :: (frT n d).data.toList
theorem dec_no {c : UInt8} (hc : c.toNat < 48) (n : Nat) : c ∉ decL n := fun h => by
  have := List.all_eq_true.1 (dig_dec n) _ h
  rw [isDig_iff] at this; omega
theorem frT_no {c : UInt8} (hc : c.toNat < 47) (n d : Int) : c ∉ (frT n d).data.toList := fun h => by
  rw [frT_list] at h
  rcases List.mem_append.1 h with h | h
  · exact dec_no (by omega) _ h
  · rcases List.mem_cons.1 h with h | h
    · rw [h] at hc; exact absurd hc (by decide)
    · exact dec_no (by omega) _ h
theorem line_no (o n d : Int) : (10 : UInt8) ∉ lineB o n d := fun h => by
  unfold lineB at h
  rcases List.mem_append.1 h with h | h
  · exact dec_no (by decide) _ h
  · rcases List.mem_cons.1 h with h | h
    · exact absurd h (by decide)
    · exact frT_no (by decide) _ _ h
/-- the words of a line -/
theorem line_cut (o n d : Int) : cutS 32 (txt (lineB o n d)) = [txt (decL o.toNat), frT n d] := by
  have := cut_join (c := 32) (P := [decL o.toNat, (frT n d).data.toList]) (by simp) (fun a ha => by
    rcases List.mem_cons.1 ha with rfl | ha
    · exact dec_no (by decide) _
    · simp only [List.mem_singleton] at ha; subst ha; exact frT_no (by decide) _ _)
  rw [show joinL 32 [decL o.toNat, (frT n d).data.toList] = lineB o n d from rfl] at this
  rw [show ((32 : UInt8).toNat : Int) = 32 from rfl] at this
  rw [this]
  simp [txt_of]
/-- a line of two words that are a number and a fraction is the line of these -/
theorem line_back {x a b : ByteArray} (h : cutS 32 x = [a, b]) (ho : 0 ≤ rdS 1000000 a) (hp : pok b = true) : txt (lineB (rdS 1000000 a) (pnum b) (pden b)) = x := by
  have hj := join_cut 32 x
  rw [show ((32 : UInt8).toNat : Int) = 32 from rfl, h] at hj
  unfold lineB
  rw [fr_back hp]
  have := (rd_back (lim := 1000000) (l := a.data.toList) ho).1
  unfold rdS
  rw [this]
  exact hj
/-- the text of lines -/
def textB (T : List (Int × Int × Int)) : List UInt8 := T.flatMap (fun h => lineB h.1 h.2.1 h.2.2 ++ [10])
theorem text_join (T : List (Int × Int × Int)) : textB T = joinL 10 (T.map (fun h => lineB h.1 h.2.1 h.2.2) ++ [[]]) := by
  induction T with
  | nil => rfl
  | cons h t ih =>
    rw [List.map_cons, List.cons_append, join_cons 10 _ (by simp), ← ih]
    show (lineB h.1 h.2.1 h.2.2 ++ [10]) ++ textB t = _
    simp
/-- the lines of a text -/
theorem text_cut (T : List (Int × Int × Int)) : cutS 10 (txt (textB T)) = T.map (fun h => txt (lineB h.1 h.2.1 h.2.2)) ++ [txt []] := by
  have := cut_join (c := 10) (P := T.map (fun h => lineB h.1 h.2.1 h.2.2) ++ [[]]) (by simp) (fun a ha => by
    rcases List.mem_append.1 ha with ha | ha
    · obtain ⟨h, _, rfl⟩ := List.mem_map.1 ha; exact line_no _ _ _
    · simp only [List.mem_singleton] at ha; subst ha; simp)
  rw [← text_join, show ((10 : UInt8).toNat : Int) = 10 from rfl] at this
  rw [this, List.map_append, List.map_map]; rfl
/-- a text whose last piece is empty is the text of its lines -/
theorem text_back {s : ByteArray} {T : List (Int × Int × Int)} (h : cutS 10 s = T.map (fun h => txt (lineB h.1 h.2.1 h.2.2)) ++ [txt []]) : txt (textB T) = s := by
  have hj := join_cut 10 s
  rw [show ((10 : UInt8).toNat : Int) = 10 from rfl, h, List.map_append, List.map_map] at hj
  rw [text_join]
  exact hj
theorem text_app (A B : List (Int × Int × Int)) : textB (A ++ B) = textB A ++ textB B := by unfold textB; rw [List.flatMap_append]
end Go.Proofs.Ytdlbjmhjaljlfaa
