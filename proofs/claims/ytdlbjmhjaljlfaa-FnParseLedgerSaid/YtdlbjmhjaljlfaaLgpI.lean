/- Texts of ledgers that are read, by the program. Condition: texts of at most 4294967296 bytes. -/
import Derived.Test.YtdlbjmhjaljlfaaLgpP
import Derived.Test.YtdlbjmhjaljlfaaMove
import Derived.Test.YtdlbjmhjaljlfaaParI
namespace Go.Proofs.Ytdlbjmhjaljlfaa
open Go.RowKit
set_option linter.unusedSimpArgs false
set_option linter.unusedVariables false

/-- what readHolding answers -/
def hdV (l : ByteArray) : Value := if hokB l then .tuple #[.agg #[.int .i64 (rdS 10000000 (wA l)), .int .i64 (pnum (wB l)), .int .i64 (pden (wB l))], .bool true] else .tuple #[.agg #[.int .i64 0, .int .i64 0, .int .i64 0], .bool false]
theorem hdV_no {l : ByteArray} (h : hokB l = false) : hdV l = .tuple #[.agg #[.int .i64 0, .int .i64 0, .int .i64 0], .bool false] := by unfold hdV; rw [h]; rfl
theorem hdV_yes {l : ByteArray} (h : hokB l = true) : hdV l = .tuple #[.agg #[.int .i64 (rdS 10000000 (wA l)), .int .i64 (pnum (wB l)), .int .i64 (pden (wB l))], .bool true] := by unfold hdV; rw [h]; rfl
theorem hok_at {l : ByteArray} {k : Nat} (h : idxI 32 l = k) : hokB l = pok (l.extract (k + 1) l.size) ∧ wA l = l.extract 0 k ∧ wB l = l.extract (k + 1) l.size := by
  have e : (idxI 32 l).toNat = k := by rw [h]; simp
  have h2 : wB l = l.extract (k + 1) l.size := by unfold wB; rw [e]
  refine ⟨?_, by unfold wA; rw [e], h2⟩
  unfold hokB
  rw [h2, decide_eq_true (by omega)]; rfl
theorem frV_cases (b : Bool) (x y : Int) : (b = true → frV b x y = .tuple #[.agg #[.int .i64 x, .int .i64 y], .bool true]) ∧ (b = false → frV b x y = .tuple #[.agg #[.int .i64 0, .int .i64 0], .bool false]) := by
  constructor <;> intro e <;> subst e <;> rfl
set_option maxHeartbeats 2000000 in
/-- impl.readHolding -/
theorem ireadH (s : ByteArray) (w : World) (h : s.size ≤ 4294967296) :
    Calls Try.prog 72 #[.string s] w fun e w' => e = .returned (hdV s) ∧ Below w.heap.size w w' := by
  have K0 := Blk.new w 85 #[.int .i64 0, .int .i64 0, .int .i64 0]
  have B0 : Below w.heap.size w (w.alloc (.cells #[.int .i64 0, .int .i64 0, .int .i64 0] 85)) := by go_grown
  rcases idx_or 32 s with ⟨k, hk, _, _, hi⟩ | ⟨_, hi⟩
  · obtain ⟨e1, e2, e3⟩ := hok_at hi
    have z1 := ext_size s 0 k
    have z2 := ext_size s (k + 1) s.size
    have HI := Lib.hid hi
    have HV : Hid ((pok (s.extract (k + 1) s.size) = false → hdV s = .tuple #[.agg #[.int .i64 0, .int .i64 0, .int .i64 0], .bool false]) ∧ (pok (s.extract (k + 1) s.size) = true → hdV s = .tuple #[.agg #[.int .i64 (rdS 10000000 (s.extract 0 k)), .int .i64 (pnum (s.extract (k + 1) s.size)), .int .i64 (pden (s.extract (k + 1) s.size))], .bool true])) :=
      ⟨fun c => hdV_no (by rw [e1]; exact c), fun c => by rw [hdV_yes (by rw [e1]; exact c), e2, e3]⟩
    clear e1 e2 e3 hi
    go_enter Try.func72, Try.ntmps72
    go_wp2_with fail
    refine (iidx s 32 _ h).mono ?_
    rintro e w' ⟨rfl, rfl⟩
    rw [HI.out]
    have q1 : (0 : Int) ≤ (k : Int) := by omega
    have q2 : (k : Int) ≤ (s.size : Int) := by omega
    have q3 : (0 : Int) ≤ (k : Int) + 1 := by omega
    have q4 : (k : Int) + 1 ≤ (s.size : Int) := by omega
    have t1 : IntKind.i64.wrap ((k : Int) + 1) = (k : Int) + 1 := by rw [IntKind.wrap_i64]; omega
    have t2 : ((k : Int) + 1).toNat = k + 1 := by omega
    generalize hA : s.extract 0 k = A at *
    generalize hD : s.extract (k + 1) s.size = D at *
    have za : A.size ≤ 4294967296 := by omega
    have zd : D.size ≤ 4294967296 := by omega
    go_wp2_with fail
    refine (iPar D _ zd).mono ?_
    rintro e w1 ⟨rfl, C⟩
    have K1 := K0.next C
    have B1 := bel_tr B0 C
    clear K0 B0 C
    obtain ⟨m, hm⟩ : ∃ m, m = w.heap.size := ⟨_, rfl⟩
    have k0 := K1.cell 0
    have k1 := K1.cell 1
    have k2 := K1.cell 2
    simp only [List.getElem?_toArray, List.getElem?_cons_zero, List.getElem?_cons_succ] at k0 k1 k2
    have f0 := K1.frozen 0
    have f1 := K1.frozen 1
    have f2 := K1.frozen 2
    have lt1 := K1.lt
    cases hp : pok D with
    | false =>
      rw [(frV_cases false _ _).2 rfl]
      have HX := Lib.hid (HV.out.1 hp)
      have KZ := (((K1.set_ 0 (.int .i64 0)).set_ 1 (.int .i64 0)).set_ 2 (.int .i64 0)).alloc (.cells #[.int .i64 0, .int .i64 0] 36)
      have s0 := KZ.cell 0
      have s1 := KZ.cell 1
      have s2 := KZ.cell 2
      simp only [List.setIfInBounds_toArray, List.set_cons_zero, List.set_cons_succ, List.getElem?_toArray, List.getElem?_cons_zero, List.getElem?_cons_succ] at s0 s1 s2
      go_wp2_with fail
      exact bodyPost_ret (v := .tuple #[.agg #[.int .i64 0, .int .i64 0, .int .i64 0], .bool false]) (by simp [results, Try.results72, go_sem, s0, s1, s2]) rfl ⟨by rw [HX.out], by go_grown⟩
    | true =>
      rw [(frV_cases true _ _).1 rfl]
      have HX := Lib.hid (HV.out.2 hp)
      generalize pnum D = n at *
      generalize pden D = d at *
      go_wp2_with fail
      have J := Blk.new w1 36 #[.int .i64 n, .int .i64 d]
      have KU := K1.alloc (.cells #[.int .i64 n, .int .i64 d] 36)
      have BU := B1.alloc B1.size (.cells #[.int .i64 n, .int .i64 d] 36)
      have ne0 : w1.heap.size ≠ w.heap.size := by omega
      generalize w1.alloc (.cells #[.int .i64 n, .int .i64 d] 36) = U at J KU BU ⊢
      clear k0 k1 k2 f0 f1 f2 K1 B1
      obtain ⟨j0, j1, j2, j3, j4⟩ := blk_two J
      have k0 := KU.cell 0
      have k1 := KU.cell 1
      have k2 := KU.cell 2
      simp only [List.getElem?_toArray, List.getElem?_cons_zero, List.getElem?_cons_succ] at k0 k1 k2
      have f0 := KU.frozen 0
      have f1 := KU.frozen 1
      have f2 := KU.frozen 2
      have t9 : (k : Int).toNat = k := by omega
      have HRD : Hid (∀ W, Calls Try.prog 108 #[.string A] W fun e w' => e = .returned (.int .i64 (rdS 10000000 A)) ∧ W = w') := Lib.hid (fun W => iread A W za)
      generalize rdS 10000000 A = oA at *
      refine wp_region_held_drew (S := (fun w' => w'.cell? ⟨w1.heap.size, 0, none⟩ = some (.int .i64 n) ∧ w'.cell? ⟨w1.heap.size, 1, none⟩ = some (.int .i64 d))) (by kernel_rfl) ?_ (fun hHeld => ?_)
      · exact ⟨j0, j1⟩
      refine wpAnyH_take (i := 0) (oi := ?ooa0) (v := ?vva0) ?hia0 (by kernel_rfl) ?h3a0 ?h4a0 ?h5a0 ?h6a0 (by assumption) ?h8a0
      case hia0 => (simp only [List.getElem?_toArray, List.getElem?_cons_succ, List.getElem?_cons_zero]; rfl)
      case h3a0 => kernel_rfl
      case h4a0 => kernel_rfl
      case h6a0 => (refine Or.inl ⟨by rfl, ?_⟩; intro w hSw; (try dsimp only at hSw); (go_simp <;> with_reducible rfl))
      case h5a0 => exact fun _ _ _ h => h
      try simp only [Act.put, List.setIfInBounds_toArray, List.set_cons_zero, List.set_cons_succ]
      refine wpAnyH_take (i := 1) (oi := ?ooa1) (v := ?vva1) ?hia1 (by kernel_rfl) ?h3a1 ?h4a1 ?h5a1 ?h6a1 (by assumption) ?h8a1
      case hia1 => (simp only [List.getElem?_toArray, List.getElem?_cons_succ, List.getElem?_cons_zero]; rfl)
      case h3a1 => kernel_rfl
      case h4a1 => kernel_rfl
      case h6a1 => (refine Or.inl ⟨by rfl, ?_⟩; intro w hSw; (try dsimp only at hSw); (go_simp <;> with_reducible rfl))
      case h5a1 => exact fun _ _ _ h => h
      try simp only [Act.put, List.setIfInBounds_toArray, List.set_cons_zero, List.set_cons_succ]
      refine wpAnyH_take (i := 2) (oi := ?ooa2) (v := ?vva2) ?hia2 (by kernel_rfl) ?h3a2 ?h4a2 ?h5a2 ?h6a2 (by assumption) ?h8a2
      case hia2 => (simp only [List.getElem?_toArray, List.getElem?_cons_succ, List.getElem?_cons_zero]; rfl)
      case h3a2 => kernel_rfl
      case h4a2 => kernel_rfl
      case h6a2 => (refine Or.inl ⟨by rfl, ?_⟩; intro w hSw; (try dsimp only at hSw); (go_simp <;> with_reducible rfl))
      case h5a2 => exact fun _ _ _ h => h
      try simp only [Act.put, List.setIfInBounds_toArray, List.set_cons_zero, List.set_cons_succ]
      refine wpAnyH_take (i := 4) (oi := ?ooa4) (v := ?vva4) ?hia4 (by kernel_rfl) ?h3a4 ?h4a4 ?h5a4 ?h6a4 (by assumption) ?h8a4
      case hia4 => (simp only [List.getElem?_toArray, List.getElem?_cons_succ, List.getElem?_cons_zero]; rfl)
      case h3a4 => kernel_rfl
      case h4a4 => kernel_rfl
      case h6a4 => (refine Or.inl ⟨by rfl, ?_⟩; intro w hSw; (try dsimp only at hSw); (go_simp <;> with_reducible rfl))
      case h5a4 => exact fun _ _ _ h => h
      try simp only [Act.put, List.setIfInBounds_toArray, List.set_cons_zero, List.set_cons_succ]
      refine wpAnyH_ready (rs := [3]) (by kernel_rfl) (by simp) (AllReadyH.cons (o := ?ooa3) ?hia3 (fun K hK => ?hka3) AllReadyH.nil)
      rotate_left
      case hia3 => (simp only [List.getElem?_toArray, List.getElem?_cons_succ, List.getElem?_cons_zero]; rfl)
      (rw [if_pos (by rfl)]; go_simp; refine (HRD.out _).mono ?_; rintro e w' ⟨rfl, rfl⟩; go_wp2_with fail; refine hK.out _ _ (hHeld) (fun hHeld => ?_); clear hK K)
      try simp only [Act.put, List.setIfInBounds_toArray, List.set_cons_zero, List.set_cons_succ]
      refine wpAnyH_take (i := 5) (oi := ?ooa5) (v := ?vva5) ?hia5 (by kernel_rfl) ?h3a5 ?h4a5 ?h5a5 ?h6a5 (by assumption) ?h8a5
      case hia5 => (simp only [List.getElem?_toArray, List.getElem?_cons_succ, List.getElem?_cons_zero]; rfl)
      case h3a5 => kernel_rfl
      case h4a5 => kernel_rfl
      case h6a5 => (refine Or.inl ⟨by rfl, ?_⟩; intro w hSw; (try dsimp only at hSw); (go_simp <;> with_reducible rfl))
      case h5a5 => exact fun _ _ _ h => h
      try simp only [Act.put, List.setIfInBounds_toArray, List.set_cons_zero, List.set_cons_succ]
      refine wpAnyH_ready (rs := [6]) (by kernel_rfl) (by simp) (AllReadyH.cons (o := ?ooa6) ?hia6 (fun K hK => ?hka6) AllReadyH.nil)
      rotate_left
      case hia6 => (simp only [List.getElem?_toArray, List.getElem?_cons_succ, List.getElem?_cons_zero]; rfl)
      (rw [if_pos (by rfl)]; go_simp; have KZ := Lib.hid (((((KU).set_ 0 (.int .i64 oA)).set_ 1 (.int .i64 n)).set_ 2 (.int .i64 d)).drew); have JJ := blk_two (((((J).far (p := ⟨w.heap.size, 0, none⟩) ne0 (.int .i64 oA)).far (p := ⟨w.heap.size, 1, none⟩) ne0 (.int .i64 n)).far (p := ⟨w.heap.size, 2, none⟩) ne0 (.int .i64 d)).drew); have BZ := Lib.hid (((((BU).setCell (p := ⟨w.heap.size, 0, none⟩) (Nat.le_refl _) (.int .i64 oA)).setCell (p := ⟨w.heap.size, 1, none⟩) (Nat.le_refl _) (.int .i64 n)).setCell (p := ⟨w.heap.size, 2, none⟩) (Nat.le_refl _) (.int .i64 d)).drew); generalize World.drew (World.setCell (World.setCell (World.setCell _ ⟨w.heap.size, 0, none⟩ (.int .i64 oA)) ⟨w.heap.size, 1, none⟩ (.int .i64 n)) ⟨w.heap.size, 2, none⟩ (.int .i64 d)) = W8 at KZ JJ BZ ⊢; refine hK.out _ _ (⟨JJ.1, JJ.2.1⟩) (fun hHeld => ?_); clear hK K)
      try simp only [Act.put, List.setIfInBounds_toArray, List.set_cons_zero, List.set_cons_succ]
      refine wpAnyH_take (i := 7) (oi := ?ooa7) (v := ?vva7) ?hia7 (by kernel_rfl) ?h3a7 ?h4a7 ?h5a7 ?h6a7 (by assumption) ?h8a7
      case hia7 => (simp only [List.getElem?_toArray, List.getElem?_cons_succ, List.getElem?_cons_zero]; rfl)
      case h3a7 => kernel_rfl
      case h4a7 => kernel_rfl
      case h6a7 => (refine Or.inl ⟨by rfl, ?_⟩; intro w hSw; (try dsimp only at hSw); (go_simp <;> with_reducible rfl))
      case h5a7 => exact fun _ _ _ h => h
      try simp only [Act.put, List.setIfInBounds_toArray, List.set_cons_zero, List.set_cons_succ]
      refine wpAnyH_done (by kernel_rfl) ?_ _
      have s0 := KZ.out.cell 0
      have s1 := KZ.out.cell 1
      have s2 := KZ.out.cell 2
      simp only [List.setIfInBounds_toArray, List.set_cons_zero, List.set_cons_succ, List.getElem?_toArray, List.getElem?_cons_zero, List.getElem?_cons_succ] at s0 s1 s2
      clear hHeld JJ k0 k1 k2 f0 f1 f2 j0 j1 j2 j3 j4
      go_wp2_with fail
      exact bodyPost_ret (v := .tuple #[.agg #[.int .i64 oA, .int .i64 n, .int .i64 d], .bool true]) (by simp [results, Try.results72, go_sem, s0, s1, s2]) rfl ⟨by rw [HX.out], BZ.out⟩
  · have HX := Lib.hid (hdV_no (show hokB s = false by unfold hokB; rw [hi]; rfl))
    have HI := Lib.hid hi
    clear hi
    go_enter Try.func72, Try.ntmps72
    go_wp2_with fail
    refine (iidx s 32 _ h).mono ?_
    rintro e w' ⟨rfl, rfl⟩
    rw [HI.out]
    have k0 := K0.cell 0
    have k1 := K0.cell 1
    have k2 := K0.cell 2
    simp only [List.getElem?_toArray, List.getElem?_cons_zero, List.getElem?_cons_succ] at k0 k1 k2
    go_wp2_with fail
    exact bodyPost_ret (v := .tuple #[.agg #[.int .i64 0, .int .i64 0, .int .i64 0], .bool false]) (by simp [results, Try.results72, go_sem, k0, k1, k2]) rfl ⟨by rw [HX.out], by go_grown⟩
end Go.Proofs.Ytdlbjmhjaljlfaa
