/- What the law on sales draws. No condition but those stated. -/
import Derived.Test.YtppnhhnilnikfaaDrawHf
import Derived.Test.YtppnhhnilnikfaaKeep
import Derived.Test.YtppnhhnilnikfaaShare
import Derived.Test.YtppnhhnilnikfaaValid
namespace Go.Proofs.Ytppnhhnilnikfaa
open Go.RowKit
set_option linter.unusedSimpArgs false
set_option linter.unusedVariables false
theorem kg3 {W wq v : World} {x y z : Value} {pa pb qa qb ra rb : Nat} {b : Nat} (hG : W.grownBy wq (some b)) (hp : pa ≠ b) (hq : qa ≠ b) (hr : ra ≠ b) (h : (W.cell? ⟨pa, pb, none⟩ = some x ∧ W.cell? ⟨qa, qb, none⟩ = some y ∧ W.cell? ⟨ra, rb, none⟩ = some z) ∧ v.grownBy W (some b)) : (wq.cell? ⟨pa, pb, none⟩ = some x ∧ wq.cell? ⟨qa, qb, none⟩ = some y ∧ wq.cell? ⟨ra, rb, none⟩ = some z) ∧ v.grownBy wq (some b) :=
  ⟨⟨(g_cell hG (World.block_lt_of_cell? W _ h.1.1) hp).trans h.1.1, (g_cell hG (World.block_lt_of_cell? W _ h.1.2.1) hq).trans h.1.2.1, (g_cell hG (World.block_lt_of_cell? W _ h.1.2.2) hr).trans h.1.2.2⟩, g_trans h.2 hG⟩
theorem kg3S {W v : World} {x y z : Value} {pa pb qa qb ra rb : Nat} {b g : Nat} (h : (W.cell? ⟨pa, pb, none⟩ = some x ∧ W.cell? ⟨qa, qb, none⟩ = some y ∧ W.cell? ⟨ra, rb, none⟩ = some z) ∧ v.grownBy W (some b)) (hg : v.heap.size ≤ g) (a c : Value) (hp : pa ≠ g) (hq : qa ≠ g) (hr : ra ≠ g) :
    (((W.setCell ⟨g, 0, none⟩ a).setCell ⟨g, 1, none⟩ c).cell? ⟨pa, pb, none⟩ = some x ∧ ((W.setCell ⟨g, 0, none⟩ a).setCell ⟨g, 1, none⟩ c).cell? ⟨qa, qb, none⟩ = some y ∧ ((W.setCell ⟨g, 0, none⟩ a).setCell ⟨g, 1, none⟩ c).cell? ⟨ra, rb, none⟩ = some z) ∧ v.grownBy ((W.setCell ⟨g, 0, none⟩ a).setCell ⟨g, 1, none⟩ c) (some b) :=
  have k : ∀ {m n : Nat} {u : Value}, m ≠ g → W.cell? ⟨m, n, none⟩ = some u → ((W.setCell ⟨g, 0, none⟩ a).setCell ⟨g, 1, none⟩ c).cell? ⟨m, n, none⟩ = some u := fun hm hu => so (fun e => hm (by injection e with e; exact e.symm)) (so (fun e => hm (by injection e with e; exact e.symm)) hu)
  ⟨⟨k hp h.1.1, k hq h.1.2.1, k hr h.1.2.2⟩, g_set (g_set h.2 (.inr hg) _) (.inr hg) _⟩
theorem kg3A {U v : World} {x y z : Value} {pa pb qa qb ra rb : Nat} {b : Nat} (O : Obj) (h : U.cell? ⟨pa, pb, none⟩ = some x ∧ U.cell? ⟨qa, qb, none⟩ = some y ∧ U.cell? ⟨ra, rb, none⟩ = some z) (hG : v.grownBy U (some b)) :
    ((U.alloc O).drew.cell? ⟨pa, pb, none⟩ = some x ∧ (U.alloc O).drew.cell? ⟨qa, qb, none⟩ = some y ∧ (U.alloc O).drew.cell? ⟨ra, rb, none⟩ = some z) ∧ v.grownBy (U.alloc O).drew (some b) :=
  ⟨(kp3 ((Below.refl _ U).alloc (Nat.le_refl _) O) ⟨h, Below.refl _ U⟩).1, g_drewN (g_alloc hG O) 1⟩
theorem mul3 {a m : Int} (h1 : 1 ≤ a) (h2 : a ≤ 10000) (m1 : 1 ≤ m) (m3 : m ≤ 3) : 1 ≤ a * m ∧ a * m ≤ 30000 := by
  have : m = 1 ∨ m = 2 ∨ m = 3 := by omega
  rcases this with rfl | rfl | rfl <;> omega
theorem c2_other {w : World} {g h : Nat} {x y : Value} (hc : Cell2 w g x y) (hne : g ≠ h) (o : Nat) (v : Value) : Cell2 (w.setCell ⟨h, o, none⟩ v) g x y := by
  obtain ⟨c0, c1, f0, f1, hz⟩ := hc
  exact ⟨so (fun e => hne (by injection e with e; exact e.symm)) c0, so (fun e => hne (by injection e with e; exact e.symm)) c1, by rw [World.frozen?_setCell]; exact f0, by rw [World.frozen?_setCell]; exact f1, by simpa [World.setCell] using hz⟩
theorem bal_one (w : World) (O : Obj) : Below w.heap.size w (w.alloc O) := (Below.refl _ w).alloc (Nat.le_refl _) O
theorem hs_store2 {W : World} {a : Option Addr} {hs : List Hd} {base g : Nat} (h : IsHs W a hs) (hb : ∀ ad, a = some ad → base ≤ ad.block) (hg : g < base) (o : Nat) (v : Value) : IsHs (W.setCell ⟨g, o, none⟩ v) a hs := by
  rcases h with h | ⟨g', o', ha, hc⟩
  · exact .inl h
  · refine .inr ⟨g', o', ha, fun i hi => ?_⟩
    have hne : g' ≠ g := by have : base ≤ g' := hb _ ha; omega
    obtain ⟨c0, c1, c2⟩ := hc i hi
    have k : ∀ {n : Nat} {u : Value}, W.cell? ⟨g', n, none⟩ = some u → (W.setCell ⟨g, o, none⟩ v).cell? ⟨g', n, none⟩ = some u := fun hu => so (fun e => hne (by injection e with e; exact e.symm)) hu
    exact ⟨k c0, k c1, k c2⟩
theorem hs_store {w2 W : World} {a : Option Addr} {hs : List Hd} {g : Nat} (h2 : IsHs w2 a hs) (hW : IsHs W a hs) (hg : w2.heap.size ≤ g) (o : Nat) (v : Value) : IsHs (W.setCell ⟨g, o, none⟩ v) a hs := by
  rcases hW with h | ⟨g', o', ha, hc⟩
  · exact .inl h
  · rcases h2 with h | ⟨g2, o2, ha2, hc2⟩
    · exact .inl h
    · rw [ha] at ha2
      injection ha2 with ha2
      injection ha2 with e1 e2
      subst e1 e2
      refine .inr ⟨g', o', ha, fun i hi => ?_⟩
      have hlt := World.block_lt_of_cell? w2 _ (hc2 i hi).1
      have hne : g' ≠ g := by have : g' < w2.heap.size := hlt; omega
      obtain ⟨c0, c1, c2⟩ := hc i hi
      have k : ∀ {n : Nat} {u : Value}, W.cell? ⟨g', n, none⟩ = some u → (W.setCell ⟨g, o, none⟩ v).cell? ⟨g', n, none⟩ = some u := fun hu => so (fun e => hne (by injection e with e; exact e.symm)) hu
      exact ⟨k c0, k c1, k c2⟩

def DrawnSell (w : World) (e : Ending) (w' : World) : Prop := ∃ (a : Option Addr) (cap : Nat) (hs : List Hd) (o t x y : Int), e = .returned (.tuple #[.slice a hs.length cap, .int .i64 o, .int .i64 t, .agg #[.int .i64 x, .int .i64 y]]) ∧ hs.length ≤ 6 ∧ hs.length ≤ cap ∧ IsHs w' a hs ∧ Below w.heap.size w w'
set_option maxRecDepth 100000 in
set_option maxHeartbeats 6000000 in
theorem drawSellShare (a : Option Addr) (len cap : Nat) (zs : List Int) (w : World) (h : IsRow .u8 w a len cap zs) :
    Calls Try.prog 19 #[.slice a len cap] w (DrawnSell w) := by
  go_enter Try.func19, Try.ntmps19
  go_wp2_with fail
  have hrow := row_below h (bal_one w (.cells #[.int .i64 0, .int .i64 0] 27))
  have C50 := c2_new w (.int .i64 0) (.int .i64 0) 27
  have B0 := bal_one w (.cells #[.int .i64 0, .int .i64 0] 27)
  have hs0 : w.heap.size < (w.alloc (.cells #[.int .i64 0, .int .i64 0] 27)).heap.size := by simp
  clear h
  generalize w.alloc (.cells #[.int .i64 0, .int .i64 0] 27) = W0 at hrow C50 B0 hs0 ⊢
  refine (newReader_any a len cap zs _ hrow).mono ?_
  rintro e w1 ⟨rfl, hR1, hB1, hb1⟩
  have C51 := c2_below C50 hB1
  have G1 := g_below (bel_tr B0 hB1) (some W0.heap.size)
  have hbw : w.heap.size < W0.heap.size := hs0
  have h5w1 : w.heap.size < w1.heap.size := by omega
  clear hrow C50 B0 hB1 hs0
  generalize W0.heap.size = b at hR1 hb1 hbw G1 ⊢
  go_wp2_with fail
  refine (anyHd b _ _ hR1 (by omega) hb1).mono ?_
  rintro e w2 ⟨bl, cp, hs, rfl, hl, hlc, hi, hblk, hR2, hG2⟩
  have hb2 := Nat.lt_of_lt_of_le hb1 hG2.size
  have G2 := g_trans G1 hG2
  have C52 := c2_grown C51 hG2 (by omega)
  have hw12 := hG2.size
  clear hG2 hR1 G1 C51
  go_wp2_with fail
  refine (anOwner b _ bl cp w1.heap.size hs _ hR2 (by omega) hb2 hi (by omega) hblk hb1).mono ?_
  rintro e w3 ⟨o, rfl, hR3, hG3⟩
  have hb3 := Nat.lt_of_lt_of_le hb2 hG3.size
  have G3 := g_trans G2 hG3
  have C53 := c2_grown C52 hG3 (by omega)
  have hi3 := hs_grown hi hblk hb1 hG3
  have hw23 := hG3.size
  clear hG3 hR2 G2 C52
  go_wp2_with fail
  refine (anyFrac_any b _ w3 hR3 (by omega) hb3).mono ?_
  rintro e w4 ⟨x, y, rfl, _, _, _, _, hR4, hG4⟩
  have hb4 := Nat.lt_of_lt_of_le hb3 hG4.size
  have G4 := g_trans G3 hG4
  have C54 := c2_grown C53 hG4 (by omega)
  have hi4 := hs_grown hi3 hblk hb1 hG4
  have hw34 := hG4.size
  clear hG4 hR3 G3 C53 hi3
  go_wp2_with fail
  have C95 := c2_new w4 (.int .i64 x) (.int .i64 y) 27
  have B45 := bal_one w4 (.cells #[.int .i64 x, .int .i64 y] 27)
  have hs5 : w4.heap.size < (w4.alloc (.cells #[.int .i64 x, .int .i64 y] 27)).heap.size := by simp
  have C55 := c2_below C54 B45
  have hR5 := rd_below hR4 hb4 B45
  have G5 := g_trans G4 (g_below B45 (some b))
  have hi5 := hs_below hi4 B45
  have hgpw : w2.heap.size ≤ w4.heap.size := by omega
  have hgpb : w4.heap.size ≠ b := by omega
  have hgp5 : w4.heap.size ≠ w.heap.size := by omega
  clear C54 hR4 G4 hi4 B45
  generalize w4.alloc (.cells #[.int .i64 x, .int .i64 y] 27) = w5 at C95 C55 hR5 G5 hi5 hs5 ⊢
  have hb5 : b < w5.heap.size := by omega
  generalize w4.heap.size = gp at C95 hgpw hgpb hgp5 hs5 ⊢
  refine (sshare bl cp hs o w5 hi5 (by omega)).mono ?_
  rintro e w6 ⟨rfl, hB6⟩
  generalize (shR hs o).1 = fn
  generalize (shR hs o).2 = fd
  have C96 := c2_below C95 hB6
  have C56 := c2_below C55 hB6
  have hR6 := rd_below hR5 hb5 hB6
  have G6 := g_trans G5 (g_below hB6 (some b))
  have hi6 := hs_below hi5 hB6
  have hw56 := hB6.size
  clear C95 C55 hR5 G5 hi5 hB6
  go_wp2_with fail
  have C07 := c2_new w6 (.int .i64 fn) (.int .i64 fd) 27
  have B67 := bal_one w6 (.cells #[.int .i64 fn, .int .i64 fd] 27)
  have hs7 : w6.heap.size < (w6.alloc (.cells #[.int .i64 fn, .int .i64 fd] 27)).heap.size := by simp
  have C57 := c2_below C56 B67
  have C97 := c2_below C96 B67
  have hR7 := rd_below hR6 (by omega) B67
  have G7 := g_trans G6 (g_below B67 (some b))
  have hi7 := hs_below hi6 B67
  have hgfb : w6.heap.size ≠ b := by omega
  have hgfp : w6.heap.size ≠ gp := by omega
  clear C56 C96 hR6 G6 hi6 B67
  generalize w6.alloc (.cells #[.int .i64 fn, .int .i64 fd] 27) = w7 at C07 C57 C97 hR7 G7 hi7 hs7 ⊢
  have hb7 : b < w7.heap.size := by omega
  generalize w6.heap.size = gf at C07 hgfb hgfp hs7 ⊢
  refine (svalid fn fd w7).mono ?_
  rintro e w8 ⟨rfl, hB8⟩
  have C08 := c2_below C07 hB8
  have C5 := c2_below C57 hB8
  have C9 := c2_below C97 hB8
  have R := rd_below hR7 hb7 hB8
  have G := g_trans G7 (g_below hB8 (some b))
  have HH := hs_below hi7 hB8
  have hbW : b < w8.heap.size := by have := hB8.size; omega
  obtain ⟨f0, f1, _, _, _⟩ := C08
  clear C07 C57 C97 hR7 G7 hi7 hB8
  cases hvf : Wsh.vfB fn fd with
  | false =>
    clear f0 f1 hvf
    have Rdr : Rd (World.drew w8) b _ := R
    have C5d : Cell2 (World.drew w8) w.heap.size (.int .i64 0) (.int .i64 0) := C5
    have HHd : IsHs (World.drew w8) bl hs := HH
    go_wp2_with fail
    obtain ⟨d0, d1, _, _, _⟩ := C9
    refine wp_region_held_drew (S := (fun w' => (w'.cell? ⟨gp, 0, none⟩ = some (.int .i64 x) ∧ w'.cell? ⟨gp, 1, none⟩ = some (.int .i64 y) ∧ w'.cell? ⟨gp, 0, none⟩ = some (.int .i64 x)) ∧ w.grownBy w' (some b))) (by kernel_rfl) ?_ (fun hHeld => ?_)
    · exact ⟨⟨d0, d1, d0⟩, g_drewN G 1⟩
    refine wpAnyH_take (i := 0) (oi := ?oot1) (v := ?vvt1) ?hit1 (by kernel_rfl) ?h3t1 ?h4t1 ?h5t1 ?h6t1 (by assumption) ?h8t1
    case hit1 => (simp only [List.getElem?_toArray, List.getElem?_cons_succ, List.getElem?_cons_zero]; rfl)
    case h3t1 => kernel_rfl
    case h4t1 => kernel_rfl
    case h6t1 => (refine Or.inl ⟨by rfl, ?_⟩; intro w hSw; (try dsimp only at hSw); (go_simp <;> with_reducible rfl))
    case h5t1 => exact fun _ _ _ h => h
    try simp only [Act.put, List.setIfInBounds_toArray, List.set_cons_zero, List.set_cons_succ]
    refine wpAnyH_take (i := 1) (oi := ?oot2) (v := ?vvt2) ?hit2 (by kernel_rfl) ?h3t2 ?h4t2 ?h5t2 ?h6t2 (by assumption) ?h8t2
    case hit2 => (simp only [List.getElem?_toArray, List.getElem?_cons_succ, List.getElem?_cons_zero]; rfl)
    case h3t2 => kernel_rfl
    case h4t2 => kernel_rfl
    case h6t2 => (refine Or.inl ⟨by rfl, ?_⟩; intro w hSw; (try dsimp only at hSw); (go_simp <;> with_reducible rfl))
    case h5t2 => exact fun _ _ _ h => h
    try simp only [Act.put, List.setIfInBounds_toArray, List.set_cons_zero, List.set_cons_succ]
    refine wpAnyH_take (i := 2) (oi := ?oot3) (v := ?vvt3) ?hit3 (by kernel_rfl) ?h3t3 ?h4t3 ?h5t3 ?h6t3 (by assumption) ?h8t3
    case hit3 => (simp only [List.getElem?_toArray, List.getElem?_cons_succ, List.getElem?_cons_zero]; rfl)
    case h3t3 => kernel_rfl
    case h4t3 => kernel_rfl
    case h6t3 => (refine Or.inl ⟨by rfl, ?_⟩; intro w hSw; (try dsimp only at hSw); (go_simp <;> with_reducible rfl))
    case h5t3 => exact fun _ _ _ h => h
    try simp only [Act.put, List.setIfInBounds_toArray, List.set_cons_zero, List.set_cons_succ]
    refine wpAnyH_take (i := 3) (oi := ?oot4) (v := ?vvt4) ?hit4 (by kernel_rfl) ?h3t4 ?h4t4 ?h5t4 ?h6t4 (by assumption) ?h8t4
    case hit4 => (simp only [List.getElem?_toArray, List.getElem?_cons_succ, List.getElem?_cons_zero]; rfl)
    case h3t4 => kernel_rfl
    case h4t4 => kernel_rfl
    case h6t4 => (refine Or.inl ⟨by rfl, ?_⟩; intro w hSw; (try dsimp only at hSw); (go_simp <;> with_reducible rfl))
    case h5t4 => exact fun _ _ _ h => h
    try simp only [Act.put, List.setIfInBounds_toArray, List.set_cons_zero, List.set_cons_succ]
    refine wpAnyH_take (i := 5) (oi := ?oot5) (v := ?vvt5) ?hit5 (by kernel_rfl) ?h3t5 ?h4t5 ?h5t5 ?h6t5 (by assumption) ?h8t5
    case hit5 => (simp only [List.getElem?_toArray, List.getElem?_cons_succ, List.getElem?_cons_zero]; rfl)
    case h3t5 => kernel_rfl
    case h4t5 => kernel_rfl
    case h6t5 => (refine Or.inl ⟨by rfl, ?_⟩; intro w hSw; (try dsimp only at hSw); (go_simp <;> with_reducible rfl))
    case h5t5 => exact fun _ _ _ h => h
    try simp only [Act.put, List.setIfInBounds_toArray, List.set_cons_zero, List.set_cons_succ]
    refine wpAnyH_ready (rs := [4]) (by kernel_rfl) (by simp) (AllReadyH.cons (o := ?oot6) ?hit6 (fun K hK => ?hkt6) AllReadyH.nil)
    rotate_left
    case hit6 => (simp only [List.getElem?_toArray, List.getElem?_cons_succ, List.getElem?_cons_zero]; rfl)
    (rw [if_pos (by rfl)]; go_simp; refine (anOwner b _ bl cp w1.heap.size hs _ Rdr (by omega) hbW HHd (by omega) hblk hb1).mono ?_; rintro e W4 ⟨t, rfl, hR9, hG9⟩; have C5w := c2_grown C5d hG9 (by omega); have HHw := hs_grown HHd hblk hb1 hG9; go_wp2_with fail; refine hK.out _ _ (kg3 hG9 hgpb hgpb hgpb hHeld) (fun hHeld => ?_); clear hK K)
    try simp only [Act.put, List.setIfInBounds_toArray, List.set_cons_zero, List.set_cons_succ]
    refine wpAnyH_take (i := 6) (oi := ?oot7) (v := ?vvt7) ?hit7 (by kernel_rfl) ?h3t7 ?h4t7 ?h5t7 ?h6t7 (by assumption) ?h8t7
    case hit7 => (simp only [List.getElem?_toArray, List.getElem?_cons_succ, List.getElem?_cons_zero]; rfl)
    case h3t7 => kernel_rfl
    case h4t7 => kernel_rfl
    case h6t7 => (refine Or.inl ⟨by rfl, ?_⟩; intro w hSw; (try dsimp only at hSw); (go_simp <;> with_reducible rfl))
    case h5t7 => exact fun _ _ _ h => h
    try simp only [Act.put, List.setIfInBounds_toArray, List.set_cons_zero, List.set_cons_succ]
    refine wpAnyH_take (i := 7) (oi := ?oot8) (v := ?vvt8) ?hit8 (by kernel_rfl) ?h3t8 ?h4t8 ?h5t8 ?h6t8 (by assumption) ?h8t8
    case hit8 => (simp only [List.getElem?_toArray, List.getElem?_cons_succ, List.getElem?_cons_zero]; rfl)
    case h3t8 => kernel_rfl
    case h4t8 => kernel_rfl
    case h6t8 => (refine Or.inl ⟨by rfl, ?_⟩; intro w hSw; (try dsimp only at hSw); (go_simp <;> with_reducible rfl))
    case h5t8 => exact fun _ _ _ h => h
    try simp only [Act.put, List.setIfInBounds_toArray, List.set_cons_zero, List.set_cons_succ]
    refine wpAnyH_take (i := 8) (oi := ?oot9) (v := ?vvt9) ?hit9 (by kernel_rfl) ?h3t9 ?h4t9 ?h5t9 ?h6t9 (by assumption) ?h8t9
    case hit9 => (simp only [List.getElem?_toArray, List.getElem?_cons_succ, List.getElem?_cons_zero]; rfl)
    case h3t9 => kernel_rfl
    case h4t9 => kernel_rfl
    case h6t9 => (refine Or.inl ⟨by rfl, ?_⟩; intro w hSw; (try dsimp only at hSw); (go_simp <;> with_reducible rfl))
    case h5t9 => exact fun _ _ _ h => h
    try simp only [Act.put, List.setIfInBounds_toArray, List.set_cons_zero, List.set_cons_succ]
    refine wpAnyH_ready (rs := [9]) (by kernel_rfl) (by simp) (AllReadyH.cons (o := ?oot10) ?hit10 (fun K hK => ?hkt10) AllReadyH.nil)
    rotate_left
    case hit10 => (simp only [List.getElem?_toArray, List.getElem?_cons_succ, List.getElem?_cons_zero]; rfl)
    (rw [if_pos (by rfl)]; obtain ⟨fc0, fc1, ff0, ff1, fz⟩ := C5w; go_simp; have CF := Lib.hid (c2_set ⟨fc0, fc1, ff0, ff1, fz⟩ (.int .i64 x) (.int .i64 y)); have GF := kg3S hHeld (Nat.le_refl w.heap.size) (.int .i64 x) (.int .i64 y) hgp5 hgp5 hgp5; have HF := Lib.hid (hs_store2 (hs_store2 HHw hblk h5w1 0 (.int .i64 x)) hblk h5w1 1 (.int .i64 y)); clear fc0 fc1 ff0 ff1 fz; refine hK.out _ _ (GF) (fun hHeld => ?_); clear hK K)
    try simp only [Act.put, List.setIfInBounds_toArray, List.set_cons_zero, List.set_cons_succ]
    refine wpAnyH_done (by kernel_rfl) ?_ _
    obtain ⟨_, GFF⟩ := hHeld
    have BF := below_grown (Below.refl w.heap.size w) GFF (Nat.le_of_lt hbw)
    obtain ⟨s0, s1, _, _, _⟩ := CF.out
    have HFF := HF.out
    clear GFF
    go_wp2_with fail
    refine bodyPost_ret (v := .tuple #[.slice bl hs.length cp, .int .i64 o, .int .i64 t, .agg #[.int .i64 x, .int .i64 y]]) (by simp [results, Try.results19, go_sem, s0, s1]) rfl ⟨bl, cp, hs, o, t, x, y, rfl, hl, hlc, HFF, BF⟩
  | true =>
    have hv := (Wsh.vfB_iff fn fd).1 hvf
    clear hvf
    by_cases hpos : 0 < fn
    · have e1 : decide (0 < fn) = true := decide_eq_true hpos
      have hbgp : b < gp := by omega
      have hwgp : w.heap.size ≤ gp := by omega
      go_wp2_with fail
      refine (pick_any b _ 4 _ R (by omega)).mono ?_
      rintro e w9 ⟨p, rfl, hp, hR9, hG9⟩
      replace C5 := c2_grown C5 hG9 (by omega)
      replace C9 := c2_grown C9 hG9 hgpb
      replace f0 := (g_cell hG9 (World.block_lt_of_cell? w8 _ f0) hgfb).trans f0
      replace f1 := (g_cell hG9 (World.block_lt_of_cell? w8 _ f1) hgfb).trans f1
      replace HH := hs_grown HH hblk hb1 hG9
      replace G := g_trans G hG9
      replace hbW := Nat.lt_of_lt_of_le hbW hG9.size
      replace R := hR9
      clear hR9 hG9 hp
      by_cases p0 : p = 0
      · have e2 : decide ((0 : Int) < (p : Int)) = false := decide_eq_false (by omega)
        have e3 : decide (0 < p) = false := decide_eq_false (by omega)
        clear p0 f0 f1
        have Rdr : Rd (World.drew w9) b _ := R
        have C5d : Cell2 (World.drew w9) w.heap.size (.int .i64 0) (.int .i64 0) := C5
        have HHd : IsHs (World.drew w9) bl hs := HH
        go_wp2_with fail
        obtain ⟨d0, d1, _, _, _⟩ := C9
        refine wp_region_held_drew (S := (fun w' => (w'.cell? ⟨gp, 0, none⟩ = some (.int .i64 x) ∧ w'.cell? ⟨gp, 1, none⟩ = some (.int .i64 y) ∧ w'.cell? ⟨gp, 0, none⟩ = some (.int .i64 x)) ∧ w.grownBy w' (some b))) (by kernel_rfl) ?_ (fun hHeld => ?_)
        · exact ⟨⟨d0, d1, d0⟩, g_drewN G 1⟩
        refine wpAnyH_take (i := 0) (oi := ?oot23) (v := ?vvt23) ?hit23 (by kernel_rfl) ?h3t23 ?h4t23 ?h5t23 ?h6t23 (by assumption) ?h8t23
        case hit23 => (simp only [List.getElem?_toArray, List.getElem?_cons_succ, List.getElem?_cons_zero]; rfl)
        case h3t23 => kernel_rfl
        case h4t23 => kernel_rfl
        case h6t23 => (refine Or.inl ⟨by rfl, ?_⟩; intro w hSw; (try dsimp only at hSw); (go_simp <;> with_reducible rfl))
        case h5t23 => exact fun _ _ _ h => h
        try simp only [Act.put, List.setIfInBounds_toArray, List.set_cons_zero, List.set_cons_succ]
        refine wpAnyH_take (i := 1) (oi := ?oot24) (v := ?vvt24) ?hit24 (by kernel_rfl) ?h3t24 ?h4t24 ?h5t24 ?h6t24 (by assumption) ?h8t24
        case hit24 => (simp only [List.getElem?_toArray, List.getElem?_cons_succ, List.getElem?_cons_zero]; rfl)
        case h3t24 => kernel_rfl
        case h4t24 => kernel_rfl
        case h6t24 => (refine Or.inl ⟨by rfl, ?_⟩; intro w hSw; (try dsimp only at hSw); (go_simp <;> with_reducible rfl))
        case h5t24 => exact fun _ _ _ h => h
        try simp only [Act.put, List.setIfInBounds_toArray, List.set_cons_zero, List.set_cons_succ]
        refine wpAnyH_take (i := 2) (oi := ?oot25) (v := ?vvt25) ?hit25 (by kernel_rfl) ?h3t25 ?h4t25 ?h5t25 ?h6t25 (by assumption) ?h8t25
        case hit25 => (simp only [List.getElem?_toArray, List.getElem?_cons_succ, List.getElem?_cons_zero]; rfl)
        case h3t25 => kernel_rfl
        case h4t25 => kernel_rfl
        case h6t25 => (refine Or.inl ⟨by rfl, ?_⟩; intro w hSw; (try dsimp only at hSw); (go_simp <;> with_reducible rfl))
        case h5t25 => exact fun _ _ _ h => h
        try simp only [Act.put, List.setIfInBounds_toArray, List.set_cons_zero, List.set_cons_succ]
        refine wpAnyH_take (i := 3) (oi := ?oot26) (v := ?vvt26) ?hit26 (by kernel_rfl) ?h3t26 ?h4t26 ?h5t26 ?h6t26 (by assumption) ?h8t26
        case hit26 => (simp only [List.getElem?_toArray, List.getElem?_cons_succ, List.getElem?_cons_zero]; rfl)
        case h3t26 => kernel_rfl
        case h4t26 => kernel_rfl
        case h6t26 => (refine Or.inl ⟨by rfl, ?_⟩; intro w hSw; (try dsimp only at hSw); (go_simp <;> with_reducible rfl))
        case h5t26 => exact fun _ _ _ h => h
        try simp only [Act.put, List.setIfInBounds_toArray, List.set_cons_zero, List.set_cons_succ]
        refine wpAnyH_take (i := 5) (oi := ?oot27) (v := ?vvt27) ?hit27 (by kernel_rfl) ?h3t27 ?h4t27 ?h5t27 ?h6t27 (by assumption) ?h8t27
        case hit27 => (simp only [List.getElem?_toArray, List.getElem?_cons_succ, List.getElem?_cons_zero]; rfl)
        case h3t27 => kernel_rfl
        case h4t27 => kernel_rfl
        case h6t27 => (refine Or.inl ⟨by rfl, ?_⟩; intro w hSw; (try dsimp only at hSw); (go_simp <;> with_reducible rfl))
        case h5t27 => exact fun _ _ _ h => h
        try simp only [Act.put, List.setIfInBounds_toArray, List.set_cons_zero, List.set_cons_succ]
        refine wpAnyH_ready (rs := [4]) (by kernel_rfl) (by simp) (AllReadyH.cons (o := ?oot28) ?hit28 (fun K hK => ?hkt28) AllReadyH.nil)
        rotate_left
        case hit28 => (simp only [List.getElem?_toArray, List.getElem?_cons_succ, List.getElem?_cons_zero]; rfl)
        (rw [if_pos (by rfl)]; go_simp; refine (anOwner b _ bl cp w1.heap.size hs _ Rdr (by omega) hbW HHd (by omega) hblk hb1).mono ?_; rintro e W4 ⟨t, rfl, hR9, hG9⟩; have C5w := c2_grown C5d hG9 (by omega); have HHw := hs_grown HHd hblk hb1 hG9; go_wp2_with fail; refine hK.out _ _ (kg3 hG9 hgpb hgpb hgpb hHeld) (fun hHeld => ?_); clear hK K)
        try simp only [Act.put, List.setIfInBounds_toArray, List.set_cons_zero, List.set_cons_succ]
        refine wpAnyH_take (i := 6) (oi := ?oot29) (v := ?vvt29) ?hit29 (by kernel_rfl) ?h3t29 ?h4t29 ?h5t29 ?h6t29 (by assumption) ?h8t29
        case hit29 => (simp only [List.getElem?_toArray, List.getElem?_cons_succ, List.getElem?_cons_zero]; rfl)
        case h3t29 => kernel_rfl
        case h4t29 => kernel_rfl
        case h6t29 => (refine Or.inl ⟨by rfl, ?_⟩; intro w hSw; (try dsimp only at hSw); (go_simp <;> with_reducible rfl))
        case h5t29 => exact fun _ _ _ h => h
        try simp only [Act.put, List.setIfInBounds_toArray, List.set_cons_zero, List.set_cons_succ]
        refine wpAnyH_take (i := 7) (oi := ?oot30) (v := ?vvt30) ?hit30 (by kernel_rfl) ?h3t30 ?h4t30 ?h5t30 ?h6t30 (by assumption) ?h8t30
        case hit30 => (simp only [List.getElem?_toArray, List.getElem?_cons_succ, List.getElem?_cons_zero]; rfl)
        case h3t30 => kernel_rfl
        case h4t30 => kernel_rfl
        case h6t30 => (refine Or.inl ⟨by rfl, ?_⟩; intro w hSw; (try dsimp only at hSw); (go_simp <;> with_reducible rfl))
        case h5t30 => exact fun _ _ _ h => h
        try simp only [Act.put, List.setIfInBounds_toArray, List.set_cons_zero, List.set_cons_succ]
        refine wpAnyH_take (i := 8) (oi := ?oot31) (v := ?vvt31) ?hit31 (by kernel_rfl) ?h3t31 ?h4t31 ?h5t31 ?h6t31 (by assumption) ?h8t31
        case hit31 => (simp only [List.getElem?_toArray, List.getElem?_cons_succ, List.getElem?_cons_zero]; rfl)
        case h3t31 => kernel_rfl
        case h4t31 => kernel_rfl
        case h6t31 => (refine Or.inl ⟨by rfl, ?_⟩; intro w hSw; (try dsimp only at hSw); (go_simp <;> with_reducible rfl))
        case h5t31 => exact fun _ _ _ h => h
        try simp only [Act.put, List.setIfInBounds_toArray, List.set_cons_zero, List.set_cons_succ]
        refine wpAnyH_ready (rs := [9]) (by kernel_rfl) (by simp) (AllReadyH.cons (o := ?oot32) ?hit32 (fun K hK => ?hkt32) AllReadyH.nil)
        rotate_left
        case hit32 => (simp only [List.getElem?_toArray, List.getElem?_cons_succ, List.getElem?_cons_zero]; rfl)
        (rw [if_pos (by rfl)]; obtain ⟨fc0, fc1, ff0, ff1, fz⟩ := C5w; go_simp; have CF := Lib.hid (c2_set ⟨fc0, fc1, ff0, ff1, fz⟩ (.int .i64 x) (.int .i64 y)); have GF := kg3S hHeld (Nat.le_refl w.heap.size) (.int .i64 x) (.int .i64 y) hgp5 hgp5 hgp5; have HF := Lib.hid (hs_store2 (hs_store2 HHw hblk h5w1 0 (.int .i64 x)) hblk h5w1 1 (.int .i64 y)); clear fc0 fc1 ff0 ff1 fz; refine hK.out _ _ (GF) (fun hHeld => ?_); clear hK K)
        try simp only [Act.put, List.setIfInBounds_toArray, List.set_cons_zero, List.set_cons_succ]
        refine wpAnyH_done (by kernel_rfl) ?_ _
        obtain ⟨_, GFF⟩ := hHeld
        have BF := below_grown (Below.refl w.heap.size w) GFF (Nat.le_of_lt hbw)
        obtain ⟨s0, s1, _, _, _⟩ := CF.out
        have HFF := HF.out
        clear GFF
        go_wp2_with fail
        refine bodyPost_ret (v := .tuple #[.slice bl hs.length cp, .int .i64 o, .int .i64 t, .agg #[.int .i64 x, .int .i64 y]]) (by simp [results, Try.results19, go_sem, s0, s1]) rfl ⟨bl, cp, hs, o, t, x, y, rfl, hl, hlc, HFF, BF⟩
      · have e2 : decide ((0 : Int) < (p : Int)) = true := decide_eq_true (by omega)
        have e3 : decide (0 < p) = true := decide_eq_true (by omega)
        clear p0
        have Rdr : Rd (World.drew w9) b _ := R
        have C5d : Cell2 (World.drew w9) w.heap.size (.int .i64 0) (.int .i64 0) := C5
        have C9d : Cell2 (World.drew w9) gp (.int .i64 x) (.int .i64 y) := C9
        have HHd : IsHs (World.drew w9) bl hs := HH
        have S7d : ((World.drew w9).cell? ⟨gf, 0, none⟩ = some (.int .i64 fn) ∧ (World.drew w9).cell? ⟨gf, 1, none⟩ = some (.int .i64 fd) ∧ (World.drew w9).cell? ⟨gf, 0, none⟩ = some (.int .i64 fn)) ∧ w.grownBy (World.drew w9) (some b) := ⟨⟨f0, f1, f0⟩, g_drewN G 1⟩
        go_wp2_with fail
        refine wp_region_held_drew (S := (fun w' => (w'.cell? ⟨gf, 0, none⟩ = some (.int .i64 fn) ∧ w'.cell? ⟨gf, 1, none⟩ = some (.int .i64 fd) ∧ w'.cell? ⟨gf, 0, none⟩ = some (.int .i64 fn)) ∧ w.grownBy w' (some b))) (by kernel_rfl) ?_ (fun hHeld => ?_)
        · exact ⟨⟨f0, f1, f0⟩, g_drewN G 1⟩
        refine wpAnyH_take (i := 0) (oi := ?oot34) (v := ?vvt34) ?hit34 (by kernel_rfl) ?h3t34 ?h4t34 ?h5t34 ?h6t34 (by assumption) ?h8t34
        case hit34 => (simp only [List.getElem?_toArray, List.getElem?_cons_succ, List.getElem?_cons_zero]; rfl)
        case h3t34 => kernel_rfl
        case h4t34 => kernel_rfl
        case h6t34 => (refine Or.inl ⟨by rfl, ?_⟩; intro w hSw; (try dsimp only at hSw); (go_simp <;> with_reducible rfl))
        case h5t34 => exact fun _ _ _ h => h
        try simp only [Act.put, List.setIfInBounds_toArray, List.set_cons_zero, List.set_cons_succ]
        refine wpAnyH_take (i := 1) (oi := ?oot35) (v := ?vvt35) ?hit35 (by kernel_rfl) ?h3t35 ?h4t35 ?h5t35 ?h6t35 (by assumption) ?h8t35
        case hit35 => (simp only [List.getElem?_toArray, List.getElem?_cons_succ, List.getElem?_cons_zero]; rfl)
        case h3t35 => kernel_rfl
        case h4t35 => kernel_rfl
        case h6t35 => (refine Or.inl ⟨by rfl, ?_⟩; intro w hSw; (try dsimp only at hSw); (go_simp <;> with_reducible rfl))
        case h5t35 => exact fun _ _ _ h => h
        try simp only [Act.put, List.setIfInBounds_toArray, List.set_cons_zero, List.set_cons_succ]
        refine wpAnyH_take (i := 2) (oi := ?oot36) (v := ?vvt36) ?hit36 (by kernel_rfl) ?h3t36 ?h4t36 ?h5t36 ?h6t36 (by assumption) ?h8t36
        case hit36 => (simp only [List.getElem?_toArray, List.getElem?_cons_succ, List.getElem?_cons_zero]; rfl)
        case h3t36 => kernel_rfl
        case h4t36 => kernel_rfl
        case h6t36 => (refine Or.inl ⟨by rfl, ?_⟩; intro w hSw; (try dsimp only at hSw); (go_simp <;> with_reducible rfl))
        case h5t36 => exact fun _ _ _ h => h
        try simp only [Act.put, List.setIfInBounds_toArray, List.set_cons_zero, List.set_cons_succ]
        refine wpAnyH_take (i := 3) (oi := ?oot37) (v := ?vvt37) ?hit37 (by kernel_rfl) ?h3t37 ?h4t37 ?h5t37 ?h6t37 (by assumption) ?h8t37
        case hit37 => (simp only [List.getElem?_toArray, List.getElem?_cons_succ, List.getElem?_cons_zero]; rfl)
        case h3t37 => kernel_rfl
        case h4t37 => kernel_rfl
        case h6t37 => (refine Or.inl ⟨by rfl, ?_⟩; intro w hSw; (try dsimp only at hSw); (go_simp <;> with_reducible rfl))
        case h5t37 => exact fun _ _ _ h => h
        try simp only [Act.put, List.setIfInBounds_toArray, List.set_cons_zero, List.set_cons_succ]
        refine wpAnyH_take (i := 4) (oi := ?oot38) (v := ?vvt38) ?hit38 (by kernel_rfl) ?h3t38 ?h4t38 ?h5t38 ?h6t38 (by assumption) ?h8t38
        case hit38 => (simp only [List.getElem?_toArray, List.getElem?_cons_succ, List.getElem?_cons_zero]; rfl)
        case h3t38 => kernel_rfl
        case h4t38 => kernel_rfl
        case h6t38 => (refine Or.inl ⟨by rfl, ?_⟩; intro w hSw; (try dsimp only at hSw); (go_simp <;> with_reducible rfl))
        case h5t38 => exact fun _ _ _ h => h
        try simp only [Act.put, List.setIfInBounds_toArray, List.set_cons_zero, List.set_cons_succ]
        refine wpAnyH_ready (rs := [5]) (by kernel_rfl) (by simp) (AllReadyH.cons (o := ?oot39) ?hit39 (fun K hK => ?hkt39) AllReadyH.nil)
        rotate_left
        case hit39 => (simp only [List.getElem?_toArray, List.getElem?_cons_succ, List.getElem?_cons_zero]; rfl)
        (rw [if_pos (by rfl)]; go_simp; have S5 := kg3A (.cells #[.int .i64 1, .int .i64 2, .int .i64 3] 3) ⟨f0, f1, f0⟩ G; refine hK.out _ _ (S5) (fun hHeld => ?_); clear hK K)
        try simp only [Act.put, List.setIfInBounds_toArray, List.set_cons_zero, List.set_cons_succ]
        refine wpAnyH_ready (rs := [6]) (by kernel_rfl) (by simp) (AllReadyH.cons (o := ?oot40) ?hit40 (fun K hK => ?hkt40) AllReadyH.nil)
        rotate_left
        case hit40 => (simp only [List.getElem?_toArray, List.getElem?_cons_succ, List.getElem?_cons_zero]; rfl)
        (rw [if_pos (by rfl)]; go_simp; refine (one_lit b 3 _ 1 3 [1, 2, 3] 3 (World.drew w9) Rdr (by omega) hbW rfl (by omega) (by omega) (by simp)).mono ?_; rintro e W6 ⟨m, rfl, m0, m1, hR6, hG6⟩; have hm1 := mul3 hv.1 hv.2.1 m0 m1; obtain ⟨fm, hfm⟩ : ∃ z, fd * m = z := ⟨_, rfl⟩; rw [hfm] at hm1; have wm : IntKind.i64.wrap fm = fm := (by rw [IntKind.wrap_i64]; omega); have C56 := c2_grown C5d hG6 (by omega); have C96 := c2_grown C9d hG6 hgpb; have HH6 := hs_grown HHd hblk hb1 hG6; have hbW6 := Nat.lt_of_lt_of_le hbW hG6.size; go_wp2_with fail; refine hK.out _ _ (kg3 hG6 hgfb hgfb hgfb S7d) (fun hHeld => ?_); clear hK K)
        try simp only [Act.put, List.setIfInBounds_toArray, List.set_cons_zero, List.set_cons_succ]
        refine wpAnyH_take (i := 7) (oi := ?oot41) (v := ?vvt41) ?hit41 (by kernel_rfl) ?h3t41 ?h4t41 ?h5t41 ?h6t41 (by assumption) ?h8t41
        case hit41 => (simp only [List.getElem?_toArray, List.getElem?_cons_succ, List.getElem?_cons_zero]; rfl)
        case h3t41 => kernel_rfl
        case h4t41 => kernel_rfl
        case h6t41 => (refine Or.inl ⟨by rfl, ?_⟩; intro w hSw; (try dsimp only at hSw); (go_simp <;> with_reducible rfl))
        case h5t41 => exact fun _ _ _ h => h
        try simp only [Act.put, List.setIfInBounds_toArray, List.set_cons_zero, List.set_cons_succ]
        refine wpAnyH_ready (rs := [8]) (by kernel_rfl) (by simp) (AllReadyH.cons (o := ?oot42) ?hit42 (fun K hK => ?hkt42) AllReadyH.nil)
        rotate_left
        case hit42 => (simp only [List.getElem?_toArray, List.getElem?_cons_succ, List.getElem?_cons_zero]; rfl)
        (rw [if_pos (by rfl)]; go_simp; refine (sred fn fm _ (by omega) (by omega) (by omega) (by omega)).mono ?_; rintro e W8 ⟨rfl, hb8⟩; obtain ⟨xn, yd, fb, hfr⟩ : ∃ n d b, frV (Wsh.redB fn fm) (Wsh.rn fn fm) (Wsh.rd fn fm) = .tuple #[.agg #[.int .i64 n, .int .i64 d], .bool b] := ⟨_, _, _, rfl⟩; rw [hfr]; have C58 := c2_below C56 hb8; have C98 := c2_below C96 hb8; have HH8 := hs_below HH6 hb8; have R8 := rd_below hR6 hbW6 hb8; go_wp2_with fail; refine hK.out _ _ (kg3 (g_below hb8 (some b)) hgfb hgfb hgfb hHeld) (fun hHeld => ?_); clear hK K)
        try simp only [Act.put, List.setIfInBounds_toArray, List.set_cons_zero, List.set_cons_succ]
        refine wpAnyH_take (i := 9) (oi := ?oot43) (v := ?vvt43) ?hit43 (by kernel_rfl) ?h3t43 ?h4t43 ?h5t43 ?h6t43 (by assumption) ?h8t43
        case hit43 => (simp only [List.getElem?_toArray, List.getElem?_cons_succ, List.getElem?_cons_zero]; rfl)
        case h3t43 => kernel_rfl
        case h4t43 => kernel_rfl
        case h6t43 => (refine Or.inl ⟨by rfl, ?_⟩; intro w hSw; (try dsimp only at hSw); (go_simp <;> with_reducible rfl))
        case h5t43 => exact fun _ _ _ h => h
        try simp only [Act.put, List.setIfInBounds_toArray, List.set_cons_zero, List.set_cons_succ]
        refine wpAnyH_take (i := 10) (oi := ?oot44) (v := ?vvt44) ?hit44 (by kernel_rfl) ?h3t44 ?h4t44 ?h5t44 ?h6t44 (by assumption) ?h8t44
        case hit44 => (simp only [List.getElem?_toArray, List.getElem?_cons_succ, List.getElem?_cons_zero]; rfl)
        case h3t44 => kernel_rfl
        case h4t44 => kernel_rfl
        case h6t44 => (refine Or.inl ⟨by rfl, ?_⟩; intro w hSw; (try dsimp only at hSw); (go_simp <;> with_reducible rfl))
        case h5t44 => exact fun _ _ _ h => h
        try simp only [Act.put, List.setIfInBounds_toArray, List.set_cons_zero, List.set_cons_succ]
        refine wpAnyH_take (i := 11) (oi := ?oot45) (v := ?vvt45) ?hit45 (by kernel_rfl) ?h3t45 ?h4t45 ?h5t45 ?h6t45 (by assumption) ?h8t45
        case hit45 => (simp only [List.getElem?_toArray, List.getElem?_cons_succ, List.getElem?_cons_zero]; rfl)
        case h3t45 => kernel_rfl
        case h4t45 => kernel_rfl
        case h6t45 => (refine Or.inl ⟨by rfl, ?_⟩; intro w hSw; (try dsimp only at hSw); (go_simp <;> with_reducible rfl))
        case h5t45 => exact fun _ _ _ h => h
        try simp only [Act.put, List.setIfInBounds_toArray, List.set_cons_zero, List.set_cons_succ]
        refine wpAnyH_ready (rs := [12]) (by kernel_rfl) (by simp) (AllReadyH.cons (o := ?oot46) ?hit46 (fun K hK => ?hkt46) AllReadyH.nil)
        rotate_left
        case hit46 => (simp only [List.getElem?_toArray, List.getElem?_cons_succ, List.getElem?_cons_zero]; rfl)
        (rw [if_pos (by rfl)]; obtain ⟨fc0, fc1, ff0, ff1, fz⟩ := C98; go_simp; have C9 := c2_set ⟨fc0, fc1, ff0, ff1, fz⟩ (.int .i64 xn) (.int .i64 yd); have C5 := c2_other (c2_other C58 (Ne.symm hgp5) 0 (.int .i64 xn)) (Ne.symm hgp5) 1 (.int .i64 yd); have HH := hs_store hi (hs_store hi HH8 hgpw 0 (.int .i64 xn)) hgpw 1 (.int .i64 yd); have R := rd_below R8 hbgp (((Below.refl gp _).setCell (p := ⟨gp, 0, none⟩) (Nat.le_refl gp) (.int .i64 xn)).setCell (p := ⟨gp, 1, none⟩) (Nat.le_refl gp) (.int .i64 yd)); have GF := kg3S hHeld hwgp (.int .i64 xn) (.int .i64 yd) hgfp hgfp hgfp; clear fc0 fc1 ff0 ff1 fz; generalize World.setCell (World.setCell _ ⟨gp, 0, none⟩ (.int .i64 xn)) ⟨gp, 1, none⟩ (.int .i64 yd) = W13 at C9 C5 HH R GF ⊢; refine hK.out _ _ (GF) (fun hHeld => ?_); clear hK K)
        try simp only [Act.put, List.setIfInBounds_toArray, List.set_cons_zero, List.set_cons_succ]
        refine wpAnyH_done (by kernel_rfl) ?_ _
        obtain ⟨_, G⟩ := hHeld
        have hbW : b < W13.heap.size := by have := C9.2.2.2.2; omega
        have Rdr : Rd (World.drew W13) b _ := R
        have C5d : Cell2 (World.drew W13) w.heap.size (.int .i64 0) (.int .i64 0) := C5
        have HHd : IsHs (World.drew W13) bl hs := HH
        go_wp2_with fail
        obtain ⟨d0, d1, _, _, _⟩ := C9
        refine wp_region_held_drew (S := (fun w' => (w'.cell? ⟨gp, 0, none⟩ = some (.int .i64 xn) ∧ w'.cell? ⟨gp, 1, none⟩ = some (.int .i64 yd) ∧ w'.cell? ⟨gp, 0, none⟩ = some (.int .i64 xn)) ∧ w.grownBy w' (some b))) (by kernel_rfl) ?_ (fun hHeld => ?_)
        · exact ⟨⟨d0, d1, d0⟩, g_drewN G 1⟩
        refine wpAnyH_take (i := 0) (oi := ?oot12) (v := ?vvt12) ?hit12 (by kernel_rfl) ?h3t12 ?h4t12 ?h5t12 ?h6t12 (by assumption) ?h8t12
        case hit12 => (simp only [List.getElem?_toArray, List.getElem?_cons_succ, List.getElem?_cons_zero]; rfl)
        case h3t12 => kernel_rfl
        case h4t12 => kernel_rfl
        case h6t12 => (refine Or.inl ⟨by rfl, ?_⟩; intro w hSw; (try dsimp only at hSw); (go_simp <;> with_reducible rfl))
        case h5t12 => exact fun _ _ _ h => h
        try simp only [Act.put, List.setIfInBounds_toArray, List.set_cons_zero, List.set_cons_succ]
        refine wpAnyH_take (i := 1) (oi := ?oot13) (v := ?vvt13) ?hit13 (by kernel_rfl) ?h3t13 ?h4t13 ?h5t13 ?h6t13 (by assumption) ?h8t13
        case hit13 => (simp only [List.getElem?_toArray, List.getElem?_cons_succ, List.getElem?_cons_zero]; rfl)
        case h3t13 => kernel_rfl
        case h4t13 => kernel_rfl
        case h6t13 => (refine Or.inl ⟨by rfl, ?_⟩; intro w hSw; (try dsimp only at hSw); (go_simp <;> with_reducible rfl))
        case h5t13 => exact fun _ _ _ h => h
        try simp only [Act.put, List.setIfInBounds_toArray, List.set_cons_zero, List.set_cons_succ]
        refine wpAnyH_take (i := 2) (oi := ?oot14) (v := ?vvt14) ?hit14 (by kernel_rfl) ?h3t14 ?h4t14 ?h5t14 ?h6t14 (by assumption) ?h8t14
        case hit14 => (simp only [List.getElem?_toArray, List.getElem?_cons_succ, List.getElem?_cons_zero]; rfl)
        case h3t14 => kernel_rfl
        case h4t14 => kernel_rfl
        case h6t14 => (refine Or.inl ⟨by rfl, ?_⟩; intro w hSw; (try dsimp only at hSw); (go_simp <;> with_reducible rfl))
        case h5t14 => exact fun _ _ _ h => h
        try simp only [Act.put, List.setIfInBounds_toArray, List.set_cons_zero, List.set_cons_succ]
        refine wpAnyH_take (i := 3) (oi := ?oot15) (v := ?vvt15) ?hit15 (by kernel_rfl) ?h3t15 ?h4t15 ?h5t15 ?h6t15 (by assumption) ?h8t15
        case hit15 => (simp only [List.getElem?_toArray, List.getElem?_cons_succ, List.getElem?_cons_zero]; rfl)
        case h3t15 => kernel_rfl
        case h4t15 => kernel_rfl
        case h6t15 => (refine Or.inl ⟨by rfl, ?_⟩; intro w hSw; (try dsimp only at hSw); (go_simp <;> with_reducible rfl))
        case h5t15 => exact fun _ _ _ h => h
        try simp only [Act.put, List.setIfInBounds_toArray, List.set_cons_zero, List.set_cons_succ]
        refine wpAnyH_take (i := 5) (oi := ?oot16) (v := ?vvt16) ?hit16 (by kernel_rfl) ?h3t16 ?h4t16 ?h5t16 ?h6t16 (by assumption) ?h8t16
        case hit16 => (simp only [List.getElem?_toArray, List.getElem?_cons_succ, List.getElem?_cons_zero]; rfl)
        case h3t16 => kernel_rfl
        case h4t16 => kernel_rfl
        case h6t16 => (refine Or.inl ⟨by rfl, ?_⟩; intro w hSw; (try dsimp only at hSw); (go_simp <;> with_reducible rfl))
        case h5t16 => exact fun _ _ _ h => h
        try simp only [Act.put, List.setIfInBounds_toArray, List.set_cons_zero, List.set_cons_succ]
        refine wpAnyH_ready (rs := [4]) (by kernel_rfl) (by simp) (AllReadyH.cons (o := ?oot17) ?hit17 (fun K hK => ?hkt17) AllReadyH.nil)
        rotate_left
        case hit17 => (simp only [List.getElem?_toArray, List.getElem?_cons_succ, List.getElem?_cons_zero]; rfl)
        (rw [if_pos (by rfl)]; go_simp; refine (anOwner b _ bl cp w1.heap.size hs _ Rdr (by omega) hbW HHd (by omega) hblk hb1).mono ?_; rintro e W4 ⟨t, rfl, hR9, hG9⟩; have C5w := c2_grown C5d hG9 (by omega); have HHw := hs_grown HHd hblk hb1 hG9; go_wp2_with fail; refine hK.out _ _ (kg3 hG9 hgpb hgpb hgpb hHeld) (fun hHeld => ?_); clear hK K)
        try simp only [Act.put, List.setIfInBounds_toArray, List.set_cons_zero, List.set_cons_succ]
        refine wpAnyH_take (i := 6) (oi := ?oot18) (v := ?vvt18) ?hit18 (by kernel_rfl) ?h3t18 ?h4t18 ?h5t18 ?h6t18 (by assumption) ?h8t18
        case hit18 => (simp only [List.getElem?_toArray, List.getElem?_cons_succ, List.getElem?_cons_zero]; rfl)
        case h3t18 => kernel_rfl
        case h4t18 => kernel_rfl
        case h6t18 => (refine Or.inl ⟨by rfl, ?_⟩; intro w hSw; (try dsimp only at hSw); (go_simp <;> with_reducible rfl))
        case h5t18 => exact fun _ _ _ h => h
        try simp only [Act.put, List.setIfInBounds_toArray, List.set_cons_zero, List.set_cons_succ]
        refine wpAnyH_take (i := 7) (oi := ?oot19) (v := ?vvt19) ?hit19 (by kernel_rfl) ?h3t19 ?h4t19 ?h5t19 ?h6t19 (by assumption) ?h8t19
        case hit19 => (simp only [List.getElem?_toArray, List.getElem?_cons_succ, List.getElem?_cons_zero]; rfl)
        case h3t19 => kernel_rfl
        case h4t19 => kernel_rfl
        case h6t19 => (refine Or.inl ⟨by rfl, ?_⟩; intro w hSw; (try dsimp only at hSw); (go_simp <;> with_reducible rfl))
        case h5t19 => exact fun _ _ _ h => h
        try simp only [Act.put, List.setIfInBounds_toArray, List.set_cons_zero, List.set_cons_succ]
        refine wpAnyH_take (i := 8) (oi := ?oot20) (v := ?vvt20) ?hit20 (by kernel_rfl) ?h3t20 ?h4t20 ?h5t20 ?h6t20 (by assumption) ?h8t20
        case hit20 => (simp only [List.getElem?_toArray, List.getElem?_cons_succ, List.getElem?_cons_zero]; rfl)
        case h3t20 => kernel_rfl
        case h4t20 => kernel_rfl
        case h6t20 => (refine Or.inl ⟨by rfl, ?_⟩; intro w hSw; (try dsimp only at hSw); (go_simp <;> with_reducible rfl))
        case h5t20 => exact fun _ _ _ h => h
        try simp only [Act.put, List.setIfInBounds_toArray, List.set_cons_zero, List.set_cons_succ]
        refine wpAnyH_ready (rs := [9]) (by kernel_rfl) (by simp) (AllReadyH.cons (o := ?oot21) ?hit21 (fun K hK => ?hkt21) AllReadyH.nil)
        rotate_left
        case hit21 => (simp only [List.getElem?_toArray, List.getElem?_cons_succ, List.getElem?_cons_zero]; rfl)
        (rw [if_pos (by rfl)]; obtain ⟨fc0, fc1, ff0, ff1, fz⟩ := C5w; go_simp; have CF := Lib.hid (c2_set ⟨fc0, fc1, ff0, ff1, fz⟩ (.int .i64 xn) (.int .i64 yd)); have GF := kg3S hHeld (Nat.le_refl w.heap.size) (.int .i64 xn) (.int .i64 yd) hgp5 hgp5 hgp5; have HF := Lib.hid (hs_store2 (hs_store2 HHw hblk h5w1 0 (.int .i64 xn)) hblk h5w1 1 (.int .i64 yd)); clear fc0 fc1 ff0 ff1 fz; refine hK.out _ _ (GF) (fun hHeld => ?_); clear hK K)
        try simp only [Act.put, List.setIfInBounds_toArray, List.set_cons_zero, List.set_cons_succ]
        refine wpAnyH_done (by kernel_rfl) ?_ _
        obtain ⟨_, GFF⟩ := hHeld
        have BF := below_grown (Below.refl w.heap.size w) GFF (Nat.le_of_lt hbw)
        obtain ⟨s0, s1, _, _, _⟩ := CF.out
        have HFF := HF.out
        clear GFF
        go_wp2_with fail
        refine bodyPost_ret (v := .tuple #[.slice bl hs.length cp, .int .i64 o, .int .i64 t, .agg #[.int .i64 xn, .int .i64 yd]]) (by simp [results, Try.results19, go_sem, s0, s1]) rfl ⟨bl, cp, hs, o, t, xn, yd, rfl, hl, hlc, HFF, BF⟩
    · have e1 : decide (0 < fn) = false := decide_eq_false hpos
      clear hpos
      have Rdr : Rd (World.drew w8) b _ := R
      have C5d : Cell2 (World.drew w8) w.heap.size (.int .i64 0) (.int .i64 0) := C5
      have HHd : IsHs (World.drew w8) bl hs := HH
      go_wp2_with fail
      obtain ⟨d0, d1, _, _, _⟩ := C9
      refine wp_region_held_drew (S := (fun w' => (w'.cell? ⟨gp, 0, none⟩ = some (.int .i64 x) ∧ w'.cell? ⟨gp, 1, none⟩ = some (.int .i64 y) ∧ w'.cell? ⟨gp, 0, none⟩ = some (.int .i64 x)) ∧ w.grownBy w' (some b))) (by kernel_rfl) ?_ (fun hHeld => ?_)
      · exact ⟨⟨d0, d1, d0⟩, g_drewN G 1⟩
      refine wpAnyH_take (i := 0) (oi := ?oot48) (v := ?vvt48) ?hit48 (by kernel_rfl) ?h3t48 ?h4t48 ?h5t48 ?h6t48 (by assumption) ?h8t48
      case hit48 => (simp only [List.getElem?_toArray, List.getElem?_cons_succ, List.getElem?_cons_zero]; rfl)
      case h3t48 => kernel_rfl
      case h4t48 => kernel_rfl
      case h6t48 => (refine Or.inl ⟨by rfl, ?_⟩; intro w hSw; (try dsimp only at hSw); (go_simp <;> with_reducible rfl))
      case h5t48 => exact fun _ _ _ h => h
      try simp only [Act.put, List.setIfInBounds_toArray, List.set_cons_zero, List.set_cons_succ]
      refine wpAnyH_take (i := 1) (oi := ?oot49) (v := ?vvt49) ?hit49 (by kernel_rfl) ?h3t49 ?h4t49 ?h5t49 ?h6t49 (by assumption) ?h8t49
      case hit49 => (simp only [List.getElem?_toArray, List.getElem?_cons_succ, List.getElem?_cons_zero]; rfl)
      case h3t49 => kernel_rfl
      case h4t49 => kernel_rfl
      case h6t49 => (refine Or.inl ⟨by rfl, ?_⟩; intro w hSw; (try dsimp only at hSw); (go_simp <;> with_reducible rfl))
      case h5t49 => exact fun _ _ _ h => h
      try simp only [Act.put, List.setIfInBounds_toArray, List.set_cons_zero, List.set_cons_succ]
      refine wpAnyH_take (i := 2) (oi := ?oot50) (v := ?vvt50) ?hit50 (by kernel_rfl) ?h3t50 ?h4t50 ?h5t50 ?h6t50 (by assumption) ?h8t50
      case hit50 => (simp only [List.getElem?_toArray, List.getElem?_cons_succ, List.getElem?_cons_zero]; rfl)
      case h3t50 => kernel_rfl
      case h4t50 => kernel_rfl
      case h6t50 => (refine Or.inl ⟨by rfl, ?_⟩; intro w hSw; (try dsimp only at hSw); (go_simp <;> with_reducible rfl))
      case h5t50 => exact fun _ _ _ h => h
      try simp only [Act.put, List.setIfInBounds_toArray, List.set_cons_zero, List.set_cons_succ]
      refine wpAnyH_take (i := 3) (oi := ?oot51) (v := ?vvt51) ?hit51 (by kernel_rfl) ?h3t51 ?h4t51 ?h5t51 ?h6t51 (by assumption) ?h8t51
      case hit51 => (simp only [List.getElem?_toArray, List.getElem?_cons_succ, List.getElem?_cons_zero]; rfl)
      case h3t51 => kernel_rfl
      case h4t51 => kernel_rfl
      case h6t51 => (refine Or.inl ⟨by rfl, ?_⟩; intro w hSw; (try dsimp only at hSw); (go_simp <;> with_reducible rfl))
      case h5t51 => exact fun _ _ _ h => h
      try simp only [Act.put, List.setIfInBounds_toArray, List.set_cons_zero, List.set_cons_succ]
      refine wpAnyH_take (i := 5) (oi := ?oot52) (v := ?vvt52) ?hit52 (by kernel_rfl) ?h3t52 ?h4t52 ?h5t52 ?h6t52 (by assumption) ?h8t52
      case hit52 => (simp only [List.getElem?_toArray, List.getElem?_cons_succ, List.getElem?_cons_zero]; rfl)
      case h3t52 => kernel_rfl
      case h4t52 => kernel_rfl
      case h6t52 => (refine Or.inl ⟨by rfl, ?_⟩; intro w hSw; (try dsimp only at hSw); (go_simp <;> with_reducible rfl))
      case h5t52 => exact fun _ _ _ h => h
      try simp only [Act.put, List.setIfInBounds_toArray, List.set_cons_zero, List.set_cons_succ]
      refine wpAnyH_ready (rs := [4]) (by kernel_rfl) (by simp) (AllReadyH.cons (o := ?oot53) ?hit53 (fun K hK => ?hkt53) AllReadyH.nil)
      rotate_left
      case hit53 => (simp only [List.getElem?_toArray, List.getElem?_cons_succ, List.getElem?_cons_zero]; rfl)
      (rw [if_pos (by rfl)]; go_simp; refine (anOwner b _ bl cp w1.heap.size hs _ Rdr (by omega) hbW HHd (by omega) hblk hb1).mono ?_; rintro e W4 ⟨t, rfl, hR9, hG9⟩; have C5w := c2_grown C5d hG9 (by omega); have HHw := hs_grown HHd hblk hb1 hG9; go_wp2_with fail; refine hK.out _ _ (kg3 hG9 hgpb hgpb hgpb hHeld) (fun hHeld => ?_); clear hK K)
      try simp only [Act.put, List.setIfInBounds_toArray, List.set_cons_zero, List.set_cons_succ]
      refine wpAnyH_take (i := 6) (oi := ?oot54) (v := ?vvt54) ?hit54 (by kernel_rfl) ?h3t54 ?h4t54 ?h5t54 ?h6t54 (by assumption) ?h8t54
      case hit54 => (simp only [List.getElem?_toArray, List.getElem?_cons_succ, List.getElem?_cons_zero]; rfl)
      case h3t54 => kernel_rfl
      case h4t54 => kernel_rfl
      case h6t54 => (refine Or.inl ⟨by rfl, ?_⟩; intro w hSw; (try dsimp only at hSw); (go_simp <;> with_reducible rfl))
      case h5t54 => exact fun _ _ _ h => h
      try simp only [Act.put, List.setIfInBounds_toArray, List.set_cons_zero, List.set_cons_succ]
      refine wpAnyH_take (i := 7) (oi := ?oot55) (v := ?vvt55) ?hit55 (by kernel_rfl) ?h3t55 ?h4t55 ?h5t55 ?h6t55 (by assumption) ?h8t55
      case hit55 => (simp only [List.getElem?_toArray, List.getElem?_cons_succ, List.getElem?_cons_zero]; rfl)
      case h3t55 => kernel_rfl
      case h4t55 => kernel_rfl
      case h6t55 => (refine Or.inl ⟨by rfl, ?_⟩; intro w hSw; (try dsimp only at hSw); (go_simp <;> with_reducible rfl))
      case h5t55 => exact fun _ _ _ h => h
      try simp only [Act.put, List.setIfInBounds_toArray, List.set_cons_zero, List.set_cons_succ]
      refine wpAnyH_take (i := 8) (oi := ?oot56) (v := ?vvt56) ?hit56 (by kernel_rfl) ?h3t56 ?h4t56 ?h5t56 ?h6t56 (by assumption) ?h8t56
      case hit56 => (simp only [List.getElem?_toArray, List.getElem?_cons_succ, List.getElem?_cons_zero]; rfl)
      case h3t56 => kernel_rfl
      case h4t56 => kernel_rfl
      case h6t56 => (refine Or.inl ⟨by rfl, ?_⟩; intro w hSw; (try dsimp only at hSw); (go_simp <;> with_reducible rfl))
      case h5t56 => exact fun _ _ _ h => h
      try simp only [Act.put, List.setIfInBounds_toArray, List.set_cons_zero, List.set_cons_succ]
      refine wpAnyH_ready (rs := [9]) (by kernel_rfl) (by simp) (AllReadyH.cons (o := ?oot57) ?hit57 (fun K hK => ?hkt57) AllReadyH.nil)
      rotate_left
      case hit57 => (simp only [List.getElem?_toArray, List.getElem?_cons_succ, List.getElem?_cons_zero]; rfl)
      (rw [if_pos (by rfl)]; obtain ⟨fc0, fc1, ff0, ff1, fz⟩ := C5w; go_simp; have CF := Lib.hid (c2_set ⟨fc0, fc1, ff0, ff1, fz⟩ (.int .i64 x) (.int .i64 y)); have GF := kg3S hHeld (Nat.le_refl w.heap.size) (.int .i64 x) (.int .i64 y) hgp5 hgp5 hgp5; have HF := Lib.hid (hs_store2 (hs_store2 HHw hblk h5w1 0 (.int .i64 x)) hblk h5w1 1 (.int .i64 y)); clear fc0 fc1 ff0 ff1 fz; refine hK.out _ _ (GF) (fun hHeld => ?_); clear hK K)
      try simp only [Act.put, List.setIfInBounds_toArray, List.set_cons_zero, List.set_cons_succ]
      refine wpAnyH_done (by kernel_rfl) ?_ _
      obtain ⟨_, GFF⟩ := hHeld
      have BF := below_grown (Below.refl w.heap.size w) GFF (Nat.le_of_lt hbw)
      obtain ⟨s0, s1, _, _, _⟩ := CF.out
      have HFF := HF.out
      clear GFF
      go_wp2_with fail
      refine bodyPost_ret (v := .tuple #[.slice bl hs.length cp, .int .i64 o, .int .i64 t, .agg #[.int .i64 x, .int .i64 y]]) (by simp [results, Try.results19, go_sem, s0, s1]) rfl ⟨bl, cp, hs, o, t, x, y, rfl, hl, hlc, HFF, BF⟩

end Go.Proofs.Ytppnhhnilnikfaa
