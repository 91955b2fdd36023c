/- What passes the nodes, by the model. Condition: at most 1048576 nodes. -/
import Derived.Test.YtlpmeljneogpiaaFlowT
import Derived.Deep.RegionHeld3
namespace Go.Proofs.Ytlpmeljneogpiaa
open Go.RowKit
set_option linter.unusedSimpArgs false
set_option linter.unusedVariables false
theorem g_transO {a b c : World} {row : Option Nat} (h : a.grownBy b row) (k : b.grownBy c row) : a.grownBy c row :=
  ⟨k.os.trans h.os, k.tape.trans h.tape, k.output.trans h.output, Nat.le_trans h.size k.size, fun i hi hne => (k.block i (Nat.lt_of_lt_of_le hi h.size) hne).trans (h.block i hi hne)⟩
theorem kp6g {W wq v : World} {row : Option Nat} {g0 g5 a0 a1 a2 a3 a4 a5 : Nat} {v0 v1 v2 v3 v4 v5 : Value} (hg : W.grownBy wq row) (n0 : row ≠ some g0) (n5 : row ≠ some g5)
    (h : (W.cell? ⟨g0, a0, none⟩ = some v0 ∧ W.cell? ⟨g0, a1, none⟩ = some v1 ∧ W.cell? ⟨g0, a2, none⟩ = some v2 ∧ W.cell? ⟨g0, a3, none⟩ = some v3 ∧ W.cell? ⟨g0, a4, none⟩ = some v4 ∧ W.cell? ⟨g5, a5, none⟩ = some v5) ∧ v.grownBy W row) : (wq.cell? ⟨g0, a0, none⟩ = some v0 ∧ wq.cell? ⟨g0, a1, none⟩ = some v1 ∧ wq.cell? ⟨g0, a2, none⟩ = some v2 ∧ wq.cell? ⟨g0, a3, none⟩ = some v3 ∧ wq.cell? ⟨g0, a4, none⟩ = some v4 ∧ wq.cell? ⟨g5, a5, none⟩ = some v5) ∧ v.grownBy wq row := by
  obtain ⟨⟨a, b, c, d, e, f⟩, g⟩ := h
  have k : ∀ {q o : Nat} {u : Value}, row ≠ some q → W.cell? ⟨q, o, none⟩ = some u → wq.cell? ⟨q, o, none⟩ = some u := fun hn hp => (World.cell?_of_block (hg.block _ (World.block_lt_of_cell? W _ hp) (fun e => hn e.symm))).trans hp
  exact ⟨⟨k n0 a, k n0 b, k n0 c, k n0 d, k n0 e, k n5 f⟩, g_transO g hg⟩
set_option maxRecDepth 100000 in
set_option maxHeartbeats 8000000 in
/-- spec.PassedOf -/
theorem sPassed (a : Option Addr) (cap : Nat) (ns : List Nd) (fl : Int) (w : World) (h : IsNd w a ns) (hn : ns.length ≤ 1048576) :
    Calls Try.prog 21 #[.slice a ns.length cap, .int .i64 fl] w (OutI w (passedV ns fl)) := by
  have VN := svn a cap ns _ h hn
  have CW := fun W => sinRange fl 0 500 W
  cases hv : vnB ns with
  | false =>
    rw [passed_no (flB_no (.inl hv))]
    rw [hv] at VN
    clear hv h
    go_enter Try.func21, Try.ntmps21
    go_wp2_with fail
    refine VN.mono ?_
    rintro e w1 ⟨rfl, C⟩
    go_wp2_with fail
    go_ret
    exact outI_nil C
  | true =>
  rw [hv] at VN
  cases hw : (decide (0 ≤ fl) && decide (fl ≤ 500)) with
  | false =>
    rw [passed_no (flB_no (.inr hw))]
    rw [hw] at CW
    clear hv hw h
    go_enter Try.func21, Try.ntmps21
    go_wp2_with fail
    refine VN.mono ?_
    rintro e w1 ⟨rfl, C⟩
    go_wp2_with fail
    refine (CW _).mono ?_
    rintro e w' ⟨rfl, rfl⟩
    go_wp2_with fail
    go_ret
    exact outI_nil C
  | true =>
  have hb : flB ns fl = true := by unfold flB; rw [hv, hw]; rfl
  rw [hw] at CW
  have hf := (flB_is hb).2
  rw [passed_yes hb]
  obtain ⟨l1, l12, _⟩ := vn_is hv
  obtain ⟨i0, hi0, hz0, hz1, hz2⟩ := info_parts infoInt
  have HF := Lib.hid (fun (W : World) (hW : Below w.heap.size w W) => sflows a cap ns fl W (nd_below h hW) hv hf)
  have HV := Lib.hid hv
  rcases h with rfl | ⟨g0, o, rfl, hc⟩
  · simp at l1
  have hg0 : g0 < w.heap.size := World.block_lt_of_cell? w _ (hc 0 (by omega)).1
  have HC := Lib.hid hc
  clear hb hw hc hv
  go_enter Try.func21, Try.ntmps21
  go_wp2_with fail
  refine VN.mono ?_
  rintro e w1 ⟨rfl, C⟩
  go_wp2_with fail
  refine (CW _).mono ?_
  rintro e w' ⟨rfl, rfl⟩
  clear VN CW
  go_wp2_with fail
  have HO1 := Lib.hid (OwnI.new C)
  have hBa := C.alloc C.size (.cells #[] 3)
  have CF := HF.out _ hBa
  have HBa := Lib.hid hBa
  have hs1 := C.size
  have hlt1 : w1.heap.size < (w1.alloc (.cells #[] 3)).heap.size := by simp
  generalize w1.alloc (.cells #[] 3) = Wa at *
  clear hBa C
  refine CF.mono ?_
  rintro e w2 ⟨v6, rfl, hO, hB⟩
  have hcl : (comeF ns fl).length = ns.length := comeTo_len ns fl _
  obtain ⟨cb, cc, rfl, _⟩ := hO.ints
  obtain ⟨gc, rfl, hgc⟩ := hO.form_ (by omega)
  rw [hcl] at hO ⊢
  have HO2 : Hid (OwnI w2 w.heap.size (.slice (some ⟨w1.heap.size, 0, none⟩) 0 0) [] ∧ OwnI w2 w.heap.size (.slice (some ⟨gc, 0, none⟩) ns.length cc) (comeF ns fl) ∧ Below w.heap.size w w2) := ⟨HO1.out.of_block hB, own_lower hO (by omega), bel_tr HBa.out hB⟩
  have hgc2 := hO.blk
  have hne : Hid ((Value.slice (some ⟨w1.heap.size, 0, none⟩) 0 0).ownBlock ≠ some gc) := fun c => by have : w1.heap.size = gc := Option.some.inj c; omega
  clear CF hO hB HO1 HBa
  go_wp2_with fail
  go_loopw [5, 7] (fun v i wr => ∃ k : Nat, k ≤ ns.length ∧ i = .int .i64 k ∧ Hid (OwnI wr w.heap.size v ((passF ns fl).take k) ∧ OwnI wr w.heap.size (.slice (some ⟨gc, 0, none⟩) ns.length cc) (comeF ns fl) ∧ Below w.heap.size w wr ∧ v.ownBlock ≠ some gc)) (fun _ i _ => ns.length - (intOf i).toNat)
  case atStart => exact ⟨0, Nat.zero_le _, rfl, HO2.out.1, HO2.out.2.1, HO2.out.2.2, hne.out⟩
  case round =>
    clear HO2 hne
    obtain ⟨k, hk, rfl, HO⟩ := hrel
    by_cases hlt : k < ns.length
    · obtain ⟨c0, c1, c2, c3, c4⟩ := nd_at HC.out HO.out.2.2.1 hlt
      obtain ⟨q1, q2, q3, q4⟩ := vn_at HV.out hlt
      have hcb := come_bd HV.out hf k
      have kc := HO.out.2.1.cell (j := k) (by omega)
      have hpg := passF_get ns fl hlt
      have htk := take_snocD (passF ns fl) (k := k) (by rw [passF_len]; exact hlt) 0
      have CP := fun W => spassing (ns.getD k nd0).1 (ns.getD k nd0).2.1 (ns.getD k nd0).2.2.1 (ns.getD k nd0).2.2.2.1 (ns.getD k nd0).2.2.2.2 ((comeF ns fl).getD k 0) W hcb q2 q3
      change ∀ W, Calls _ _ _ W (fun e w' => e = .returned (.int .i64 (passV (ns.getD k nd0) ((comeF ns fl).getD k 0))) ∧ Below W.heap.size W w') at CP
      rw [← hpg] at CP
      have hll : ((passF ns fl).take k).length ≤ 1048576 := by rw [List.length_take]; omega
      have n0 : u5.ownBlock ≠ some g0 := fun e => by have := (World.ownsRow.lt HO.out.1 g0 e).1; omega
      have n5 : u5.ownBlock ≠ some gc := HO.out.2.2.2
      have hgc3 := HO.out.2.1.blk
      have hs3 := HO.out.2.2.1.size
      generalize (comeF ns fl).getD k 0 = c at kc CP
      generalize ns.getD k nd0 = nd at c0 c1 c2 c3 c4 CP
      obtain ⟨x0, x1, x2, x3, x4⟩ := nd
      dsimp only at c0 c1 c2 c3 c4 CP
      generalize (passF ns fl).getD k 0 = p at CP htk
      have HTK := Lib.hid htk
      have HN5 := Lib.hid n5
      have k0 : (0 : Int) ≤ (k : Int) := by omega
      have k1 : (k : Int) < (ns.length : Int) := by omega
      have HO' : Hid (OwnI wr w.heap.size u5 ((passF ns fl).take k)) := HO.out.1
      generalize (passF ns fl).take k = tk at HO' htk HTK hll
      clear hcb hpg q1 q2 q3 q4 htk
      have HOO := HO
      clear HO
      have HO : Hid (OwnI wr w.heap.size u5 tk ∧ True) := ⟨HO'.out, trivial⟩
      go_wp2_with fail
      refine wp_region_held_drew (S := (fun W' => (W'.cell? ⟨g0, o + k * 5, none⟩ = some (.int .i64 x0) ∧ W'.cell? ⟨g0, o + k * 5 + 1, none⟩ = some (.int .i64 x1) ∧ W'.cell? ⟨g0, o + k * 5 + 2, none⟩ = some (.int .i64 x2) ∧ W'.cell? ⟨g0, o + k * 5 + 3, none⟩ = some (.int .i64 x3) ∧ W'.cell? ⟨g0, o + k * 5 + 4, none⟩ = some (.int .i64 x4) ∧ W'.cell? ⟨gc, k, none⟩ = some (.int .i64 c)) ∧ wr.grownBy W' u5.ownBlock)) (by kernel_rfl) ?_ (fun hHeld => ?_)
      · exact ⟨⟨c0, c1, c2, c3, c4, kc⟩, g_drewN (g_of (Below.refl _ _) _) 1⟩
      refine wpAnyH_take (i := 0) (oi := ?ooa0) (v := ?vva0) ?hia0 (by kernel_rfl) ?h3a0 ?h4a0 ?h5a0 ?h6a0 (by assumption) ?h8a0
      case hia0 => (simp only [List.getElem?_toArray, List.getElem?_cons_succ, List.getElem?_cons_zero]; rfl)
      case h3a0 => kernel_rfl
      case h4a0 => kernel_rfl
      case h6a0 => (refine Or.inl ⟨by rfl, ?_⟩; intro w hSw; (try dsimp only at hSw); (go_simp <;> with_reducible rfl))
      case h5a0 => exact fun _ _ _ h => h
      try simp only [Act.put, List.setIfInBounds_toArray, List.set_cons_zero, List.set_cons_succ]
      refine wpAnyH_take (i := 1) (oi := ?ooa1) (v := ?vva1) ?hia1 (by kernel_rfl) ?h3a1 ?h4a1 ?h5a1 ?h6a1 (by assumption) ?h8a1
      case hia1 => (simp only [List.getElem?_toArray, List.getElem?_cons_succ, List.getElem?_cons_zero]; rfl)
      case h3a1 => kernel_rfl
      case h4a1 => kernel_rfl
      case h6a1 => (refine Or.inl ⟨by rfl, ?_⟩; intro w hSw; (try dsimp only at hSw); (go_simp <;> with_reducible rfl))
      case h5a1 => exact fun _ _ _ h => h
      try simp only [Act.put, List.setIfInBounds_toArray, List.set_cons_zero, List.set_cons_succ]
      refine wpAnyH_take (i := 2) (oi := ?ooa2) (v := ?vva2) ?hia2 (by kernel_rfl) ?h3a2 ?h4a2 ?h5a2 ?h6a2 (by assumption) ?h8a2
      case hia2 => (simp only [List.getElem?_toArray, List.getElem?_cons_succ, List.getElem?_cons_zero]; rfl)
      case h3a2 => kernel_rfl
      case h4a2 => kernel_rfl
      case h6a2 => (refine Or.inl ⟨by rfl, ?_⟩; intro w hSw; (try dsimp only at hSw); (go_simp <;> with_reducible rfl))
      case h5a2 => exact fun _ _ _ h => h
      try simp only [Act.put, List.setIfInBounds_toArray, List.set_cons_zero, List.set_cons_succ]
      refine wpAnyH_take (i := 3) (oi := ?ooa3) (v := ?vva3) ?hia3 (by kernel_rfl) ?h3a3 ?h4a3 ?h5a3 ?h6a3 (by assumption) ?h8a3
      case hia3 => (simp only [List.getElem?_toArray, List.getElem?_cons_succ, List.getElem?_cons_zero]; rfl)
      case h3a3 => kernel_rfl
      case h4a3 => kernel_rfl
      case h6a3 => (refine Or.inl ⟨by rfl, ?_⟩; intro w hSw; (try dsimp only at hSw); (go_simp <;> with_reducible rfl))
      case h5a3 => exact fun _ _ _ h => h
      try simp only [Act.put, List.setIfInBounds_toArray, List.set_cons_zero, List.set_cons_succ]
      refine wpAnyH_take (i := 4) (oi := ?ooa4) (v := ?vva4) ?hia4 (by kernel_rfl) ?h3a4 ?h4a4 ?h5a4 ?h6a4 (by assumption) ?h8a4
      case hia4 => (simp only [List.getElem?_toArray, List.getElem?_cons_succ, List.getElem?_cons_zero]; rfl)
      case h3a4 => kernel_rfl
      case h4a4 => kernel_rfl
      case h6a4 => (refine Or.inl ⟨by rfl, ?_⟩; intro w hSw; (try dsimp only at hSw); (go_simp <;> with_reducible rfl))
      case h5a4 => exact fun _ _ _ h => h
      try simp only [Act.put, List.setIfInBounds_toArray, List.set_cons_zero, List.set_cons_succ]
      refine wpAnyH_take (i := 5) (oi := ?ooa5) (v := ?vva5) ?hia5 (by kernel_rfl) ?h3a5 ?h4a5 ?h5a5 ?h6a5 (by assumption) ?h8a5
      case hia5 => (simp only [List.getElem?_toArray, List.getElem?_cons_succ, List.getElem?_cons_zero]; rfl)
      case h3a5 => kernel_rfl
      case h4a5 => kernel_rfl
      case h6a5 => (refine Or.inl ⟨by rfl, ?_⟩; intro w hSw; (try dsimp only at hSw); (go_simp <;> with_reducible rfl))
      case h5a5 => exact fun _ _ _ h => h
      try simp only [Act.put, List.setIfInBounds_toArray, List.set_cons_zero, List.set_cons_succ]
      refine wpAnyH_take (i := 6) (oi := ?ooa6) (v := ?vva6) ?hia6 (by kernel_rfl) ?h3a6 ?h4a6 ?h5a6 ?h6a6 (by assumption) ?h8a6
      case hia6 => (simp only [List.getElem?_toArray, List.getElem?_cons_succ, List.getElem?_cons_zero]; rfl)
      case h3a6 => kernel_rfl
      case h4a6 => kernel_rfl
      case h6a6 => (refine Or.inl ⟨by rfl, ?_⟩; intro w hSw; (try dsimp only at hSw); (go_simp <;> with_reducible rfl))
      case h5a6 => exact fun _ _ _ h => h
      try simp only [Act.put, List.setIfInBounds_toArray, List.set_cons_zero, List.set_cons_succ]
      refine wpAnyH_take (i := 7) (oi := ?ooa7) (v := ?vva7) ?hia7 (by kernel_rfl) ?h3a7 ?h4a7 ?h5a7 ?h6a7 (by assumption) ?h8a7
      case hia7 => (simp only [List.getElem?_toArray, List.getElem?_cons_succ, List.getElem?_cons_zero]; rfl)
      case h3a7 => kernel_rfl
      case h4a7 => kernel_rfl
      case h6a7 => (refine Or.inl ⟨by rfl, ?_⟩; intro w hSw; (try dsimp only at hSw); (go_simp <;> with_reducible rfl))
      case h5a7 => exact fun _ _ _ h => h
      try simp only [Act.put, List.setIfInBounds_toArray, List.set_cons_zero, List.set_cons_succ]
      refine wpAnyH_take (i := 8) (oi := ?ooa8) (v := ?vva8) ?hia8 (by kernel_rfl) ?h3a8 ?h4a8 ?h5a8 ?h6a8 (by assumption) ?h8a8
      case hia8 => (simp only [List.getElem?_toArray, List.getElem?_cons_succ, List.getElem?_cons_zero]; rfl)
      case h3a8 => kernel_rfl
      case h4a8 => kernel_rfl
      case h6a8 => (refine Or.inl ⟨by rfl, ?_⟩; intro w hSw; (try dsimp only at hSw); (go_simp <;> with_reducible rfl))
      case h5a8 => exact fun _ _ _ h => h
      try simp only [Act.put, List.setIfInBounds_toArray, List.set_cons_zero, List.set_cons_succ]
      refine wpAnyH_ready (rs := [9]) (by kernel_rfl) (by simp) (AllReadyH.cons (o := ?ooa9) ?hia9 (fun K hK => ?hka9) AllReadyH.nil)
      rotate_left
      case hia9 => (simp only [List.getElem?_toArray, List.getElem?_cons_succ, List.getElem?_cons_zero]; rfl)
      (rw [if_pos (by rfl)]; go_simp; refine (CP _).mono ?_; rintro e wq ⟨rfl, hb⟩; go_wp2_with fail; refine hK.out _ _ (kp6g (g_of hb _) n0 n5 hHeld) (fun hHeld => ?_); clear hK K)
      try simp only [Act.put, List.setIfInBounds_toArray, List.set_cons_zero, List.set_cons_succ]
      refine wpAnyH_ready (rs := [10]) (by kernel_rfl) (by simp) (AllReadyH.cons (o := ?ooa10) ?hia10 (fun K hK => ?hka10) AllReadyH.nil)
      rotate_left
      case hia10 => (simp only [List.getElem?_toArray, List.getElem?_cons_succ, List.getElem?_cons_zero]; rfl)
      (rw [if_pos (by rfl)]; go_simp; refine hK.out _ _ (kp6g (g_of ((Below.refl _ _).alloc (Nat.le_refl _) _) _) n0 n5 hHeld) (fun hHeld => ?_); clear hK K)
      try simp only [Act.put, List.setIfInBounds_toArray, List.set_cons_zero, List.set_cons_succ]
      refine wpAnyH_ready (rs := [11]) (by kernel_rfl) (by simp) (AllReadyH.cons (o := ?ooa11) ?hia11 (fun K hK => ?hka11) AllReadyH.nil)
      rotate_left
      case hia11 => (simp only [List.getElem?_toArray, List.getElem?_cons_succ, List.getElem?_cons_zero]; rfl)
      (rw [if_pos (by rfl)]; refine wp_append_any _ (.tmp 26) (.tmp 36) _ rfl w.heap.size 3 i0 _ 1 8 Try.underlying24 hi0 hz0 hz1 hz2 rfl (by decide) _ _ _ rfl (World.ownsRow.alloc (OwnI.of_block (w := World.drew wr) HO.out.1 hb) _) (wq.heap.size + 1) (some ⟨wq.heap.size, 0, none⟩) 1 1 [.int .i64 p] rfl ⟨by simp, fun _ => ⟨⟨wq.heap.size, 0, none⟩, rfl, Nat.lt_succ_self _, cell_one_new _ _ _⟩⟩ (fun x hx => by simp at hx; subst hx; rfl) (by unfold maxLen; omega) (by omega) (by have : wr.heap.size ≤ wq.heap.size := hb.size; simp; omega) ?_; intro v3 w5 hown3 hgrow3 hat3; refine hK.out _ _ (kp6g hgrow3 n0 n5 hHeld) (fun hHeld => ?_); clear hK K)
      try simp only [Act.put, List.setIfInBounds_toArray, List.set_cons_zero, List.set_cons_succ]
      refine wpAnyH_take (i := 12) (oi := ?ooa12) (v := ?vva12) ?hia12 (by kernel_rfl) ?h3a12 ?h4a12 ?h5a12 ?h6a12 (by assumption) ?h8a12
      case hia12 => (simp only [List.getElem?_toArray, List.getElem?_cons_succ, List.getElem?_cons_zero]; rfl)
      case h3a12 => kernel_rfl
      case h4a12 => kernel_rfl
      case h6a12 => (refine Or.inl ⟨by rfl, ?_⟩; intro w hSw; (try dsimp only at hSw); (go_simp <;> with_reducible rfl))
      case h5a12 => exact fun _ _ _ h => h
      try simp only [Act.put, List.setIfInBounds_toArray, List.set_cons_zero, List.set_cons_succ]
      refine wpAnyH_done (by kernel_rfl) ?_ _
      have HR : Hid (OwnI w5 w.heap.size v3 ((passF ns fl).take (k + 1)) ∧ OwnI w5 w.heap.size (.slice (some ⟨gc, 0, none⟩) ns.length cc) (comeF ns fl) ∧ Below w.heap.size w w5 ∧ v3.ownBlock ≠ some gc) := by
        refine ⟨by rw [HTK.out]; exact OwnI.snoc hown3, World.ownsRow.kept HOO.out.2.1 hHeld.2 (.inr (fun e => HN5.out e.symm)), below_gv HOO.out.2.2.1 hHeld.2 HO'.out.grow, ?_⟩
        rcases hat3 with e | e
        · rw [e]; exact HN5.out
        · rw [e]
          intro c
          have c := Option.some.inj c
          have := hb.size
          have h3 : wr.heap.size ≤ wq.heap.size := this
          simp at c
          omega
      clear hHeld hown3 hgrow3 hat3 hb HO HOO HO' n0 n5 CP c0 c1 c2 c3 c4 kc
      go_wp2_with fail
      go_roundw
      case rel => exact ⟨k + 1, by omega, by go_num, HR.out⟩
      case measure => simp [intOf]; omega
    · have HE : Hid (OwnI wr w.heap.size u5 (passF ns fl) ∧ Below w.heap.size w wr) := by
        refine ⟨?_, HO.out.2.2.1⟩
        have := HO.out.1
        rw [List.take_of_length_le (by rw [passF_len]; omega)] at this
        exact this
      clear HO
      go_wp2_with fail
      go_ret
      exact ⟨_, rfl, HE.out⟩
end Go.Proofs.Ytlpmeljneogpiaa
