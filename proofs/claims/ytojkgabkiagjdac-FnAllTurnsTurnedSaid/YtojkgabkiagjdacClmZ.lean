/- Claims by the model: all orders of turns. Condition: at most 1048576 numbers. -/
import Derived.Test.YtojkgabkiagjdacClmY
import Derived.Test.YtojkgabkiagjdacClmU
namespace Go.Proofs.Ytojkgabkiagjdac
open Go.RowKit
set_option linter.unusedSimpArgs false
set_option linter.unusedVariables false
/-- what the orders that begin so give -/
def ordT (n : Int) (cs : List Int) (d : Nat) (b : List Nat) : List Int := (List.range cs.length).map fun k => ((ordersL cs.length d b).map (fun p => getP (clF cs) n p k)).sum
theorem ordT_len (n : Int) (cs : List Int) (d : Nat) (b : List Nat) : (ordT n cs d b).length = cs.length := by unfold ordT; simp
theorem ordT_get (n : Int) (cs : List Int) (d : Nat) (b : List Nat) {i : Nat} (h : i < cs.length) : (ordT n cs d b).getD i 0 = ((ordersL cs.length d b).map (fun p => getP (clF cs) n p i)).sum := by
  unfold ordT
  rw [List.getD_eq_getElem?_getD, List.getElem?_map, List.getElem?_range h]; rfl
theorem ordT_all (n : Int) (cs : List Int) : ordT n cs cs.length [] = totV n cs := rfl
theorem ordT_one {n : Int} {cs bs : List Int} (h : ordB cs.length bs = true) : ordT n cs 0 (ordN bs) = turnV n cs bs := by
  rw [turn_map n h]
  unfold ordT
  refine List.map_congr_left (fun k _ => ?_)
  show (getP _ _ _ _ + 0) = _; omega
/-- the orders that go on with one of the first i -/
def partL (m d : Nat) (b : List Nat) (i : Nat) : List (List Nat) := (List.range i).flatMap (fun i => if i ∈ b then [] else ordersL m d (b ++ [i]))
def accO (n : Int) (cs : List Int) (d : Nat) (b : List Nat) (i : Nat) : List Int := (List.range cs.length).map fun k => ((partL cs.length d b i).map (fun p => getP (clF cs) n p k)).sum
theorem accO_len (n : Int) (cs : List Int) (d : Nat) (b : List Nat) (i : Nat) : (accO n cs d b i).length = cs.length := by unfold accO; simp
theorem accO_get (n : Int) (cs : List Int) (d : Nat) (b : List Nat) (i : Nat) {k : Nat} (h : k < cs.length) : (accO n cs d b i).getD k 0 = ((partL cs.length d b i).map (fun p => getP (clF cs) n p k)).sum := by
  unfold accO
  rw [List.getD_eq_getElem?_getD, List.getElem?_map, List.getElem?_range h]; rfl
theorem accO_zero (n : Int) (cs : List Int) (d : Nat) (b : List Nat) : accO n cs d b 0 = List.replicate cs.length 0 := by
  refine ext_z (by rw [accO_len, List.length_replicate]) (fun k hk => ?_)
  rw [accO_len] at hk
  rw [accO_get n cs d b 0 hk, rep_get]; rfl
theorem accO_end (n : Int) (cs : List Int) (d : Nat) (b : List Nat) : accO n cs d b cs.length = ordT n cs (d + 1) b := rfl
theorem partL_succ (m d : Nat) (b : List Nat) (i : Nat) : partL m d b (i + 1) = partL m d b i ++ (if i ∈ b then [] else ordersL m d (b ++ [i])) := by
  unfold partL
  rw [List.range_succ, List.flatMap_append]; simp
theorem accO_skip {n : Int} {cs : List Int} {d : Nat} {b : List Nat} {i : Nat} (h : i ∈ b) : accO n cs d b (i + 1) = accO n cs d b i := by
  unfold accO
  rw [partL_succ, if_pos h, List.append_nil]
theorem accO_step {n : Int} {cs : List Int} {d : Nat} {b : List Nat} {i : Nat} (h : i ∉ b) : accO n cs d b (i + 1) = addZ (accO n cs d b i) (ordT n cs d (b ++ [i])) := by
  refine ext_z (by rw [accO_len, addZ_len, accO_len]) (fun k hk => ?_)
  rw [accO_len] at hk
  rw [addZ_get _ _ (by rw [accO_len]; exact hk), accO_get _ _ _ _ _ hk, accO_get _ _ _ _ _ hk, ordT_get _ _ _ _ hk, partL_succ, if_neg h, List.map_append, List.sum_append]
theorem list_bd {n : Int} {cs : List Int} (hc : ∀ i, 0 ≤ clF cs i) (hn : 0 ≤ n) (A : List (List Nat)) (k : Nat) : 0 ≤ (A.map (fun p => getP (clF cs) n p k)).sum ∧ (A.map (fun p => getP (clF cs) n p k)).sum ≤ n * (A.length : Int) := by
  have a := sum_le (A := A) (f := fun _ => 0) (g := fun p => getP (clF cs) n p k) (fun p _ => (get_bd hc p n k hn).1)
  have b := sum_le (A := A) (f := fun p => getP (clF cs) n p k) (g := fun _ => n) (fun p _ => (get_bd hc p n k hn).2.2)
  rw [sum_same _ (v := 0) (fun _ _ => rfl)] at a
  rw [sum_same _ (v := n) (fun _ _ => rfl)] at b
  exact ⟨by omega, b⟩
theorem partL_le {m d : Nat} {b : List Nat} (hb : b.Nodup) (hm : ∀ x ∈ b, x < m) (hl : b.length + (d + 1) = m) : ∀ i, i ≤ m → (partL m d b i).length ≤ i * facN d := by
  intro i
  induction i with
  | zero => intro _; exact Nat.zero_le _
  | succ i ih =>
    intro hi
    have := ih (by omega)
    rw [partL_succ, List.length_append, Nat.add_mul]
    by_cases c : i ∈ b
    · rw [if_pos c]; show _ + 0 ≤ _; omega
    · rw [if_neg c, orders_count m d (b ++ [i]) (List.nodup_append.2 ⟨hb, by simp, fun a ha c2 hc => by simp at hc; subst hc; exact fun e => c (e ▸ ha)⟩) (fun x hx => by
        rcases List.mem_append.1 hx with h | h
        · exact hm x h
        · simp at h; omega) (by simp; omega)]
      omega
theorem ordN_snoc (bs : List Int) (i : Nat) : ordN (bs ++ [(i : Int)]) = ordN bs ++ [i] := by unfold ordN; rw [List.map_append]; simp
theorem ordN_mem {bs : List Int} (h : ∀ x ∈ bs, 0 ≤ x) (i : Nat) : i ∈ ordN bs ↔ (i : Int) ∈ bs := by
  unfold ordN
  rw [List.mem_map]
  constructor
  · rintro ⟨x, hx, e⟩
    have := h x hx
    rw [show (i : Int) = x by omega]; exact hx
  · intro hi; exact ⟨_, hi, by omega⟩
/-- a good beginning of an order -/
def Beg (m : Nat) (bs : List Int) : Prop := bs.Nodup ∧ ∀ x ∈ bs, 0 ≤ x ∧ x < (m : Int)
theorem beg_snoc {m : Nat} {bs : List Int} (h : Beg m bs) {i : Nat} (hi : i < m) (hn : (i : Int) ∉ bs) : Beg m (bs ++ [(i : Int)]) := by
  refine ⟨List.nodup_append.2 ⟨h.1, by simp, fun a ha c hc => by simp at hc; subst hc; exact fun e => hn (e ▸ ha)⟩, fun x hx => ?_⟩
  rcases List.mem_append.1 hx with c | c
  · exact h.2 x c
  · simp at c; omega
theorem beg_N {m : Nat} {bs : List Int} (h : Beg m bs) : (ordN bs).Nodup ∧ (∀ x ∈ ordN bs, x < m) := by
  constructor
  · unfold ordN
    show List.Pairwise _ _
    rw [List.pairwise_map]
    refine List.Pairwise.imp_of_mem ?_ h.1
    intro x y hx hy hxy e
    have := h.2 x hx; have := h.2 y hy; omega
  · intro x hx
    unfold ordN at hx
    obtain ⟨y, hy, rfl⟩ := List.mem_map.1 hx
    have := h.2 y hy; omega
theorem plcN_cases (r : List Int) (x : Int) : (x ∈ r ∧ ∃ q : Nat, plcVN r x = (q : Int)) ∨ (x ∉ r ∧ plcVN r x = -1) := by
  by_cases c : x ∈ r
  · refine .inl ⟨c, ?_⟩
    have hh : ∀ q, (∃ j, j < q ∧ j < r.length ∧ r.getD j 0 = x) → ∃ j, j < r.length ∧ r.getD j 0 = x ∧ ∀ i, i < j → r.getD i 0 ≠ x := by
      intro q
      induction q with
      | zero => rintro ⟨j, h, _⟩; omega
      | succ q ih =>
        rintro ⟨j, h1, h2, h3⟩
        by_cases d : ∃ i, i < q ∧ i < r.length ∧ r.getD i 0 = x
        · exact ih d
        · exact ⟨j, h2, h3, fun i hi e => d ⟨i, by omega, by omega, e⟩⟩
    obtain ⟨j, h1, h2⟩ := mem_getN.1 c
    obtain ⟨j, h1, h2, h3⟩ := hh (j + 1) ⟨j, by omega, h1, h2⟩
    exact ⟨j, plcN_at h1 h3 h2⟩
  · exact .inr ⟨c, plcN_no (fun j hj e => c (mem_getN.2 ⟨j, hj, e⟩))⟩
set_option maxRecDepth 100000 in
set_option maxHeartbeats 4000000 in
/-- spec.orders -/
theorem sorders (n : Int) (ca m : Nat) (cs : List Int) (hv : vcB n cs = true) (hm5 : m ≤ 5) (hm : cs.length = m) : ∀ (d : Nat) (a b : Option Addr) (cb lb : Nat) (bs : List Int) (w : World), IsInts w a cs → IsInts w b bs → bs.length = lb → lb + d = m → Beg m bs →
    Calls Try.prog 50 #[.int .i64 n, .slice a m ca, .slice b lb cb] w (OutI w (ordT n cs d (ordN bs))) := by
  obtain ⟨v1, v2, v3, v4⟩ := vc_iff.1 hv
  have hs := vc_bd v1 v2
  have n6 : n ≤ 6000 := by omega
  have HV := Lib.hid hv
  have HM0 := Lib.hid hm
  have HCF := Lib.hid (clF_nn v1)
  clear v1 v2 v4 hs hv hm
  intro d
  induction d with
  | zero =>
    intro a b cb lb bs w h h2 hl hd hbeg
    obtain rfl : lb = m := by omega
    have hord : ordB cs.length bs = true := (ordB_iff _ bs).2 ⟨by rw [HM0.out]; exact hl, hbeg.1, fun x hx => by rw [HM0.out]; exact hbeg.2 x hx⟩
    rw [ordT_one hord]
    have CT := sinTurn n a b ca cb lb cs bs w h h2 HV.out hord hl
    rw [HM0.out] at CT
    generalize turnV n cs bs = V at *
    have e1 : ((lb : Int) == (lb : Int)) = true := by simp
    clear h h2 hl hd hbeg hord HM0 HV HCF
    go_enter Try.func50, Try.ntmps50
    go_wp2_with fail
    refine CT.mono ?_
    rintro e w2 ⟨v, rfl, O, B⟩
    go_wp2_with fail
    go_ret
    exact ⟨_, rfl, O, B⟩
  | succ d ih =>
    intro a b cb lb bs w h h2 hl hd hbeg
    have HA := Lib.hid h
    have HB := Lib.hid h2
    have HBG := Lib.hid hbeg
    have HLB := Lib.hid hl
    have HIH := Lib.hid ih
    have hNb := beg_N hbeg
    have hpl := fun i (hi : i ≤ m) => partL_le (d := d) hNb.1 hNb.2 (by rw [ordN_len]; omega) i hi
    have hfd := facN_le d (by omega)
    have HBD := Lib.hid (fun i (hi : i ≤ m) k (hk : k < m) => show 0 ≤ (accO n cs d (ordN bs) i).getD k 0 ∧ (accO n cs d (ordN bs) i).getD k 0 ≤ 3600000 from by
      rw [accO_get n cs d (ordN bs) i (by rw [HM0.out]; exact hk), HM0.out]
      have x1 := list_bd HCF.out v3 (partL m d (ordN bs) i) k
      have x2 := hpl i hi
      have x3 : i * facN d ≤ 5 * 120 := Nat.mul_le_mul (by omega) hfd.2
      have x4 : n * ((partL m d (ordN bs) i).length : Int) ≤ 6000 * ((partL m d (ordN bs) i).length : Int) := Int.mul_le_mul_of_nonneg_right n6 (by omega)
      omega)
    have HTB := Lib.hid (fun i (hi : i < m) (hn : (i : Int) ∉ bs) k (hk : k < m) => show 0 ≤ (ordT n cs d (ordN bs ++ [i])).getD k 0 ∧ (ordT n cs d (ordN bs ++ [i])).getD k 0 ≤ 3600000 from by
      rw [ordT_get n cs d _ (by rw [HM0.out]; exact hk), HM0.out]
      have x1 := list_bd HCF.out v3 (ordersL m d (ordN bs ++ [i])) k
      have hb2 := beg_N (beg_snoc hbeg hi hn)
      rw [ordN_snoc] at hb2
      have x2 := orders_count m d (ordN bs ++ [i]) hb2.1 hb2.2 (by rw [List.length_append, ordN_len]; simp; omega)
      rw [x2] at x1
      have x4 : n * (facN d : Int) ≤ 6000 * (facN d : Int) := Int.mul_le_mul_of_nonneg_right n6 (by omega)
      omega)
    have hmk := run_make_row' (P := Try.prog) 23 3 (.int .i64 0) 8 Try.underlying23 infoInt rfl .i64 .i64 m (by omega) (by omega)
    have hM := OwnI.made (Below.refl w.heap.size w) m (by omega)
    have hB2 := (Below.refl w.heap.size w).alloc (Nat.le_refl _) (.cells (madeCells #[.int .i64 0] m) 3)
    rw [show List.replicate m (0 : Int) = accO n cs d (ordN bs) 0 from by rw [accO_zero, HM0.out]] at hM
    have HM := Lib.hid (And.intro hM hB2)
    have e1 : ((lb : Int) == (m : Int)) = false := by rw [beq_eq_false_iff_ne]; omega
    have e2 : ¬ (lb : Int) = (m : Int) := by omega
    have lb5 : lb ≤ 5 := by omega
    have HD := Lib.hid hd
    clear hM hB2 h h2 hl hbeg ih hNb hpl hfd hd
    go_enter Try.func50, Try.ntmps50
    go_wp2_with fail
    clear hmk
    go_loopw [8] (fun x wr => ∃ i : Nat, i ≤ m ∧ x = .int .i64 i ∧ Hid (OwnI wr w.heap.size (.slice (some ⟨w.heap.size, 0, none⟩) m m) (accO n cs d (ordN bs) i) ∧ Below w.heap.size w wr)) (fun x _ => m - (intOf x).toNat)
    case atStart => exact ⟨0, Nat.zero_le _, rfl, HM.out⟩
    case round =>
      clear HM
      obtain ⟨i, hi, rfl, HR⟩ := hrel
      by_cases hlt : i < m
      · have i0 : (0 : Int) ≤ (i : Int) := by omega
        have i1 : (i : Int) < (m : Int) := by omega
        have CP := splaceN b cb lb bs (i : Int) wr (ints_below HB.out HR.out.2) HLB.out (by omega)
        rcases plcN_cases bs (i : Int) with ⟨hm1, q, hq⟩ | ⟨hm1, hq⟩
        · rw [hq] at CP
          have q0 : decide ((q : Int) ≥ 0) = true := decide_eq_true (by omega)
          have q1 : (0 : Int) ≤ (q : Int) := by omega
          have hsk := accO_skip (n := n) (cs := cs) (d := d) (b := ordN bs) (i := i) ((ordN_mem (fun x hx => (HBG.out.2 x hx).1) i).2 hm1)
          have HS : Hid (OwnI wr w.heap.size (.slice (some ⟨w.heap.size, 0, none⟩) m m) (accO n cs d (ordN bs) (i + 1)) ∧ Below w.heap.size w wr) := by show _ ∧ _; rw [hsk]; exact HR.out
          have HCP := Lib.hid CP
          clear CP hq hm1 hsk HR
          go_wp2_with fail
          refine HCP.out.mono ?_
          rintro e w' ⟨rfl, rfl⟩
          clear HCP
          go_wp2_with fail
          go_roundw
          case rel => exact ⟨i + 1, by omega, by go_num, HS.out⟩
          case measure => simp [intOf]; omega
        · rw [hq] at CP
          have hst := accO_step (n := n) (cs := cs) (d := d) (b := ordN bs) (i := i) (fun c => hm1 ((ordN_mem (fun x hx => (HBG.out.2 x hx).1) i).1 c))
          have CC := scopyN b cb bs wr (ints_below HB.out HR.out.2) (by have := HLB.out; omega)
          rw [HLB.out] at CC
          have HST := Lib.hid hst
          have HAC : Hid (∀ k, k < m → 0 ≤ (accO n cs d (ordN bs) i).getD k 0 ∧ (accO n cs d (ordN bs) i).getD k 0 ≤ 3600000) := fun k hk => HBD.out i hi k hk
          have HAT : Hid (∀ k, k < m → 0 ≤ (ordT n cs d (ordN bs ++ [i])).getD k 0 ∧ (ordT n cs d (ordN bs ++ [i])).getD k 0 ≤ 3600000) := fun k hk => HTB.out i hlt hm1 k hk
          have HLA : Hid ((accO n cs d (ordN bs) i).length = m) := by show _ = _; rw [accO_len, HM0.out]
          have HLT : Hid ((ordT n cs d (ordN bs ++ [i])).length = m) := by show _ = _; rw [ordT_len, HM0.out]
          have CI := fun (b2 : Option Addr) (c2 : Nat) (W : World) (hA : IsInts W a cs) (hI : IsInts W b2 (bs ++ [(i : Int)])) => HIH.out a b2 c2 (lb + 1) (bs ++ [(i : Int)]) W hA hI (by rw [List.length_append, HLB.out]; rfl) (by have := HD.out; omega) (beg_snoc HBG.out hlt hm1)
          rw [ordN_snoc] at CI
          generalize ordT n cs d (ordN bs ++ [i]) = GV at *
          generalize accO n cs d (ordN bs) i = TT at *
          have HBSL : Hid ((bs ++ [(i : Int)]).length = lb + 1) := by show _ = _; rw [List.length_append, HLB.out]; rfl
          obtain ⟨BS, hBS⟩ : ∃ BS, bs ++ [(i : Int)] = BS := ⟨_, rfl⟩
          rw [hBS] at HBSL CI
          have HBS := Lib.hid hBS
          have hlt0 : w.heap.size < wr.heap.size := HR.out.1.blk.2
          have HCI := Lib.hid CI
          have HCP := Lib.hid CP
          have HCC := Lib.hid CC
          clear CP hq hm1 hst CC CI HBD HTB hBS
          go_wp2_with fail
          refine HCP.out.mono ?_
          rintro e w' ⟨rfl, rfl⟩
          clear HCP
          go_wp2_with fail
          refine HCC.out.mono ?_
          rintro e w1 ⟨v1, rfl, O1, C1⟩
          have R1 := HR.out.1.of_block C1
          have B1 := bel_tr HR.out.2 C1
          have HQ := Lib.hid (And.intro O1 (And.intro R1 B1))
          have hwl := C1.size
          clear O1 R1 B1 C1 HR HCC
          go_wp2_with (first | (at_builtin; refine wp_snoc rfl _ _ rfl rfl HQ.out.1 rfl rfl (by rw [HLB.out]; omega) hwl ?_; intro v3 w3 Q3 G3 n3; rw [HBS.out] at Q3; have R3 : OwnI w3 w.heap.size (.slice (some ⟨w.heap.size, 0, none⟩) m m) TT := World.ownsRow.kept HQ.out.2.1 G3 (.inr (fun c => by have := HQ.out.1.grow w.heap.size c.symm; omega)); have B3 : Below w.heap.size w w3 := below_gv HQ.out.2.2 G3 (fun q hq => by have := HQ.out.1.grow q hq; omega); have hw3 : w.heap.size < w3.heap.size := R3.blk.2; obtain ⟨b3, c3, rfl, I3⟩ := Q3.ints; rw [HBSL.out]; have HQ3 := Lib.hid (And.intro I3 (And.intro R3 B3)); clear Q3 G3 n3 R3 B3 I3 HQ))
          refine (HCI.out b3 c3 _ (ints_below HA.out HQ3.out.2.2) HQ3.out.1).mono ?_
          rintro e w4 ⟨v4, rfl, O4, C4⟩
          obtain ⟨b4, c4, rfl, I4⟩ := O4.ints
          have HNE : Hid (∀ gg oo : Nat, b4 = some ⟨gg, oo, none⟩ → gg ≠ w.heap.size) := fun gg oo e => by
            have := O4.grow gg (by rw [e]; rfl)
            omega
          rw [HLT.out]
          have B4 := bel_tr HQ3.out.2.2 C4
          have R4 : OwnI w4 w.heap.size (.slice (some ⟨w.heap.size, 0, none⟩) m m) (mix2 (addZ TT GV) TT 0) := by rw [mix2_zero (by rw [addZ_len])]; exact HQ3.out.2.1.of_block C4
          have HM2 := Lib.hid (And.intro R4 (And.intro B4 I4))
          clear O4 I4 C4 B4 R4 HCI HQ3
          go_wp2_with fail
          go_loopw [10] (fun y wi => ∃ k : Nat, k ≤ m ∧ y = .int .i64 k ∧ Hid (OwnI wi w.heap.size (.slice (some ⟨w.heap.size, 0, none⟩) m m) (mix2 (addZ TT GV) TT k) ∧ Below w.heap.size w wi ∧ IsInts wi b4 GV)) (fun y _ => m - (intOf y).toNat)
          case atStart => exact ⟨0, Nat.zero_le _, rfl, HM2.out⟩
          case round =>
            clear HM2
            obtain ⟨k, hk, rfl, HR⟩ := hrel
            by_cases hlk : k < m
            · obtain ⟨O, B, I⟩ := HR.out
              have lA : (addZ TT GV).length = m := by rw [addZ_len]; exact HLA.out
              obtain ⟨gh, oh, rfl, x0⟩ := ints_open I (by have := HLT.out; omega)
              have x0 := x0 k (by have := HLT.out; omega)
              have ne : gh ≠ w.heap.size := HNE.out _ _ rfl
              have hms := mix2_set (zs := addZ TT GV) TT (k := k) (by omega)
              rw [addZ_get TT GV (by have := HLA.out; omega)] at hms
              have hd := O.cell (j := k) (by rw [mix2_len]; omega)
              rw [mix2_get _ _ _ (by omega), if_neg (by omega)] at hd
              have hf := O.frozen k
              have O2 := O.set_ k (TT.getD k 0 + GV.getD k 0)
              rw [hms] at O2
              have b1 := HAC.out k hlk
              have b2 := HAT.out k hlk
              have I2 := ints_far (j := k) (v := .int .i64 (TT.getD k 0 + GV.getD k 0)) I ne
              have HS := Lib.hid (And.intro O2 (And.intro (B.setCell (p := ⟨w.heap.size, k, none⟩) (Nat.le_refl _) (.int .i64 (TT.getD k 0 + GV.getD k 0))) I2))
              generalize TT.getD k 0 = y at *
              generalize GV.getD k 0 = z at *
              have wz : IntKind.i64.wrap (y + z) = y + z := by rw [IntKind.wrap_i64]; omega
              have k0 : (0 : Int) ≤ (k : Int) := by omega
              have k1 : (k : Int) < (m : Int) := by omega
              clear O O2 B I I2 HR hms lA
              go_wp2_with fail
              go_region
              all_goals (
                go_wp2_with fail
                go_roundw
                case rel => exact ⟨k + 1, by omega, by go_num, HS.out.1, HS.out.2.1.drew, HS.out.2.2⟩
                case measure => simp [intOf]; omega)
            · obtain rfl : k = m := by omega
              have O := HR.out.1
              have B := HR.out.2.1
              rw [mix2_all _ (by rw [addZ_len, HLA.out]; exact Nat.le_refl _), ← HST.out] at O
              have HF := Lib.hid (And.intro O B)
              clear O B HR
              go_wp2_with fail
              go_roundw
              case rel => exact ⟨i + 1, by omega, by go_num, HF.out⟩
              case measure => simp [intOf] <;> omega
      · obtain rfl : i = m := by omega
        have O := HR.out.1
        have e9 : accO n cs d (ordN bs) i = ordT n cs (d + 1) (ordN bs) := by
          have := accO_end n cs d (ordN bs)
          rw [HM0.out] at this; exact this
        rw [e9] at O
        have HF := Lib.hid (And.intro O HR.out.2)
        clear O HR e9
        go_wp2_with fail
        go_ret
        exact ⟨_, rfl, HF.out⟩
set_option maxRecDepth 100000 in
set_option maxHeartbeats 4000000 in
/-- spec.AllTurns -/
theorem sAll (n : Int) (a : Option Addr) (ca : Nat) (cs : List Int) (w : World) (h : IsInts w a cs) (hn : cs.length ≤ 1048576) :
    Calls Try.prog 18 #[.int .i64 n, .slice a cs.length ca] w (OutI w (allV n cs)) := by
  have CV := svc n a ca cs w h hn
  cases hv : vcB n cs with
  | false =>
    rw [allV_no (av_no1 hv)]
    rw [hv] at CV
    clear hv h
    go_enter Try.func18, Try.ntmps18
    go_wp2_with fail
    refine CV.mono ?_
    rintro e w' ⟨rfl, rfl⟩
    go_wp2_with fail
    go_ret
    exact outI_nil (Below.refl _ _)
  | true =>
  rw [hv] at CV
  by_cases h5 : 5 < cs.length
  · have e1 : (5 : Int) < (cs.length : Int) := by omega
    rw [allV_no (av_no2 h5)]
    clear h5 h hv
    go_enter Try.func18, Try.ntmps18
    go_wp2_with fail
    refine CV.mono ?_
    rintro e w' ⟨rfl, rfl⟩
    go_wp2_with fail
    go_ret
    exact outI_nil (Below.refl _ _)
  have e1 : ¬ (5 : Int) < (cs.length : Int) := by omega
  have h5' : cs.length ≤ 5 := by omega
  rw [allV_yes (av_yes hv h5'), ← ordT_all]
  have B0 := (Below.refl w.heap.size w).alloc (Nat.le_refl _) (.cells #[] 3)
  have CO := fun (W : World) (hA : IsInts W a cs) (b : Option Addr) => sorders n ca cs.length cs hv h5' rfl cs.length a b 0 0 [] W hA (.inl rfl) rfl (by omega) ⟨List.nodup_nil, fun x hx => by simp at hx⟩
  rw [show ordN [] = [] from rfl] at CO
  have HCO := Lib.hid CO
  have HA := Lib.hid (ints_below h B0)
  have HB := Lib.hid B0
  generalize ordT n cs cs.length [] = V at *
  clear h5 hv h CO B0
  go_enter Try.func18, Try.ntmps18
  go_wp2_with fail
  refine CV.mono ?_
  rintro e w' ⟨rfl, rfl⟩
  go_wp2_with fail
  refine (HCO.out _ HA.out _).mono ?_
  rintro e w3 ⟨v, rfl, O, C⟩
  go_wp2_with fail
  go_ret
  exact ⟨_, rfl, own_lower O HB.out.size, bel_tr HB.out C⟩
end Go.Proofs.Ytojkgabkiagjdac
