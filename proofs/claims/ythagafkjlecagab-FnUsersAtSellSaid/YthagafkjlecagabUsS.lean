/- Who uses the water at a time, by spec. Condition: at most 1048576 holdings and leases. -/
import Derived.Test.YthagafkjlecagabUse
import Derived.Test.YthagafkjlecagabSell
import Derived.Test.YthagafkjlecagabHoldS
import Derived.Test.YthagafkjlecagabRowT
import Derived.Test.YthagafkjlecagabDeed
import Derived.Test.YthagafkjlecagabLzw
namespace Go.Proofs.Ythagafkjlecagab
open Go.RowKit
set_option linter.unusedSimpArgs false
set_option linter.unusedVariables false

def s1L (b : Bool) (x : Lr) (L : Led) : Led := setL L x.ow (if b then shareL L x.ow - partQ x else 0)
def s2L (b c : Bool) (x : Lr) (L : Led) : Led := setL (s1L b x L) x.te (if c then shareL (s1L b x L) x.te + partQ x else 0)
theorem s1_inv {b : Bool} {L : Led} {m : Nat} {x : Lr} (h : UInv L m) (hb : frB (shareL L x.ow - partQ x) = b) : UInv (s1L b x L) (m + 1) := by
  refine ⟨asc_set h.a _ _, fr_set h.f _ ?_, ?_⟩
  · cases b with
    | false => exact frB_zero
    | true => exact hb
  · have a := set_len (L := L) x.ow (if b then shareL L x.ow - partQ x else 0)
    have c := h.n
    unfold s1L
    omega
theorem stB_no1 {L : Led} {x : Lr} (hb : frB (shareL L x.ow - partQ x) = false) : stB x L = false := by unfold stB; rw [hb]; rfl
theorem stB_c {L : Led} {x : Lr} {c : Bool} (hb : frB (shareL L x.ow - partQ x) = true) (hc : frB (shareL (s1L true x L) x.te + partQ x) = c) : stB x L = c := by unfold stB; rw [hb, ← hc]; rfl
theorem s2_st (x : Lr) (L : Led) : s2L true true x L = stL x L := rfl

set_option maxRecDepth 100000 in
set_option maxHeartbeats 6000000 in
/-- spec.usersAt: the time and the leases are good -/
theorem susersAt (a : Option Addr) (cap : Nat) (hs : List Hd) (A : Option Addr) (capz : Nat) (ls : List Lr) (t : Int) (w : World) (h : IsHs w a hs) (hn : hs.length ≤ 1048576) (hz : IsLs w A ls) (hl : lzB hs ls = true) (t0 : 0 ≤ t) (t1 : t ≤ 5000) :
    Calls Try.prog 39 #[.slice a hs.length cap, .slice A ls.length capz, .int .i64 t] w (MoveV w (usB hs ls t) (usL hs ls t)) := by
  obtain ⟨i0, hi0, hz0, hz1, hz2⟩ := info_parts infoH
  obtain ⟨hv, hl10, htm⟩ := lz_vl hl
  obtain ⟨hraw, hinv⟩ := us_start hv
  have HSOME := Lib.hid (fun L => us_some (hs := hs) (ls := ls) (t := t) (L := L) t0 t1 hl)
  have HNONE := Lib.hid (us_none (hs := hs) (ls := ls) (t := t))
  have HR := Lib.hid (hs_reads h)
  have HZ := Lib.hid hz
  have HT := Lib.hid htm
  have HRAW := Lib.hid hraw
  have HINV := Lib.hid hinv
  clear h hz hl hv htm hraw hinv
  go_enter Try.func39, Try.ntmps39
  go_wp2_with (first | (at_builtin; refine wpList_append_any _ rfl (.tmp 15) (.tmp 16) _ rfl w.heap.size 64 i0 _ 3 24 Try.underlying26 hi0 hz0 hz1 hz2 rfl (by omega) _ 0 [] rfl ⟨rfl, .inr ⟨w.heap.size, 0, #[], rfl, Nat.le_refl _, Blk.new _ _ _, Nat.le_refl _, by unfold maxLen; omega, rfl, rfl⟩⟩ w.heap.size a hs.length cap (valsH hs) rfl (HR.out.alloc (Nat.le_refl _) _) (vals_one hs) (by unfold maxLen; omega) (by omega) (by simp) ?_; intro v1 w1 hown1 hg1 hat1))
  have O1 : OwnH w1 w.heap.size v1 hs := by
    have := hown1
    rw [Nat.zero_add, List.nil_append] at this
    exact this
  have B : Below w.heap.size w w1 := ((Below.refl _ _).alloc (Nat.le_refl _) _).grown hg1 (by simp) (fun q hq => by have e : w.heap.size = q := Option.some.inj hq; omega)
  clear hown1 hg1 hat1
  go_loopw [8, 9] (fun v i wr => ∃ (k : Nat) (L : Led), k ≤ ls.length ∧ i = .int .i64 (k : Int) ∧ OwnH wr w.heap.size v (rawL L) ∧ Hid (UInv L (12 + 2 * k) ∧ uO t L (ls.drop k) = uO t (ledOf hs) ls) ∧ Below w.heap.size w wr) (fun _ i _ => ls.length - (intOf i).toNat)
  case atStart => exact ⟨0, ledOf hs, Nat.zero_le _, rfl, by rw [HRAW.out]; exact O1, ⟨HINV.out, rfl⟩, B⟩
  case round =>
    clear B O1
    obtain ⟨k, L, hk, rfl, hO, HU, B⟩ := hrel
    obtain ⟨bb, cp, rfl, hI, hle⟩ := own_hs2 hO
    have hn2 : (rawL L).length ≤ 900 := by have := HU.out.1.n; rw [raw_len]; omega
    by_cases hlt : k < ls.length
    · rcases HZ.out with hd0 | ⟨g, o, rfl, hg⟩
      · rw [hd0] at hlt; exact absurd hlt (Nat.not_lt_zero _)
      have hcs := hg k hlt
      obtain ⟨c0, c1, c2, c3, c4, c5⟩ := hcs
      have kp : ∀ q v, w.cell? ⟨g, q, none⟩ = some v → wr.cell? ⟨g, q, none⟩ = some v := fun q v c => (B.cell (p := ⟨g, q, none⟩) (World.block_lt_of_cell? w _ c)).trans c
      replace c0 := kp _ _ c0
      replace c1 := kp _ _ c1
      replace c2 := kp _ _ c2
      replace c3 := kp _ _ c3
      replace c4 := kp _ _ c4
      replace c5 := kp _ _ c5
      have hvf := terms_at HT.out hlt
      have hd := ls_drop hlt
      have hu := HU.out.2
      rw [hd] at hu
      have HIN := Lib.hid HU.out.1
      have k0 : (0 : Int) ≤ (k : Int) := by omega
      have k1 : (k : Int) < (ls.length : Int) := by omega
      clear kp hg hd HU
      generalize ls.getD k lr0 = x at *
      obtain ⟨p1, p2, p3⟩ := vf_q hvf
      replace p1 : (partQ x).num = x.n := p1
      replace p2 : ((partQ x).den : Int) = x.d := p2
      replace p3 : frB (partQ x) = true := p3
      have hbad := fun (h1 : atB x t = true) (h2 : stB x L = false) => HNONE.out (by rw [← hu, uO_bad _ h1 h2])
      have hout := fun (h1 : atB x t = false) => (⟨⟨HIN.out.a, HIN.out.f, by have := HIN.out.n; omega⟩, by rw [← hu, uO_out _ h1]⟩ : UInv L (12 + 2 * (k + 1)) ∧ uO t L (ls.drop (k + 1)) = uO t (ledOf hs) ls)
      have hgo := fun (h1 : atB x t = true) (h2 : stB x L = true) => (⟨by have := st_inv HIN.out h2; exact ⟨this.a, this.f, by have := this.n; omega⟩, by rw [← hu, uO_go _ h1 h2]⟩ : UInv (stL x L) (12 + 2 * (k + 1)) ∧ uO t (stL x L) (ls.drop (k + 1)) = uO t (ledOf hs) ls)
      obtain ⟨b, hb⟩ : ∃ b, frB (shareL L x.ow - partQ x) = b := ⟨_, rfl⟩
      obtain ⟨L1, hL1⟩ : ∃ L1, L1 = s1L b x L := ⟨_, rfl⟩
      have HI1 := s1_inv HIN.out hb
      rw [← hL1] at HI1
      obtain ⟨c, hc⟩ : ∃ c, frB (shareL L1 x.te + partQ x) = c := ⟨_, rfl⟩
      have hn3 : (rawL L1).length ≤ 900 := by have := HI1.n; rw [raw_len]; omega
      obtain ⟨q4, q5, q1, _⟩ := sub_led2 HIN.out.f x.ow p3
      obtain ⟨_, q2, q3⟩ := sub_led HIN.out.f x.ow p3
      obtain ⟨s4, _, _, s1⟩ := sub_led2 HI1.f x.te p3
      obtain ⟨_, s2, s3⟩ := add_led HI1.f x.te p3
      rw [hb] at q1
      rw [hc] at s1
      rw [p1, p2] at q1 q2 q3 q5 s1 s2 s3
      have CSU := Lib.hid (fun W => ssubQ W q4 q5 q1 q2 q3)
      have CAD := Lib.hid (fun W => saddQ W s4 q5 s1 s2 s3)
      clear q1 q2 q3 q4 q5 s1 s2 s3 s4 p1 p2
      have hstn := fun (e : b = false) => stB_no1 (x := x) (L := L) (hb.trans e)
      have hstc : b = true → stB x L = c ∧ (c = true → setL L1 x.te (if c then shareL L1 x.te + partQ x else 0) = stL x L) := fun e => by
        subst e
        refine ⟨stB_c hb (by rw [← hL1]; exact hc), fun e => ?_⟩
        subst e
        rw [hL1]; exact s2_st x L
      have HSTN := Lib.hid hstn
      have HSTC := Lib.hid hstc
      have HL1 : Hid (setL L x.ow (if b then shareL L x.ow - partQ x else 0) = L1) := hL1.symm
      obtain ⟨U, hU⟩ : ∃ y, y = wr.alloc (.cells #[.int .i64 x.ow, .int .i64 x.te, .int .i64 x.n, .int .i64 x.d, .int .i64 x.fr, .int .i64 x.en] 48) := ⟨_, rfl⟩
      have K : Blk U wr.heap.size 48 #[.int .i64 x.ow, .int .i64 x.te, .int .i64 x.n, .int .i64 x.d, .int .i64 x.fr, .int .i64 x.en] := by subst hU; exact Blk.new wr 48 _
      have D : Below wr.heap.size wr U := by subst hU; exact (Below.refl _ _).alloc (Nat.le_refl _) _
      have BU := bel_tr B D
      have HU2 := Lib.hid hU
      have HBAD := Lib.hid hbad
      have HGO := Lib.hid hgo
      have HOUT := Lib.hid hout
      have IU := hs_below hI D
      have CSH := Lib.hid (fun W (hW : Below U.heap.size U W) => sshareL bb cp L (rawL L) x.ow W (hs_below IU hW) rfl (by omega))
      have HO := Lib.hid hO
      have lz := K.lt
      obtain ⟨z0, z1, z2, z3, z4, z5⟩ := cells6 K
      have HK := Lib.hid K
      have HIU := Lib.hid IU
      clear hU hu hO hI hvf p3 hb hc hL1 hstn hstc hbad hgo hout B K IU HIN
      go_upto_region 6 with fail
      rw [← HU2.out]
      by_cases h1 : x.fr ≤ t
      rotate_left
      · have HX := Lib.hid (HOUT.out (by unfold atB; rw [decide_eq_false h1]; rfl))
        clear HGO HOUT HBAD CSH CSU CAD HSTN HSTC HL1
        go_wp2_with fail
        go_roundw
        case rel => exact ⟨k + 1, L, by omega, by go_num, (own_next HO.out D), HX, BU⟩
        case measure => simp [intOf]; omega
      by_cases h2 : t < x.en
      rotate_left
      · have HX := Lib.hid (HOUT.out (by unfold atB; rw [decide_eq_false h2, Bool.and_false]))
        clear HGO HOUT HBAD CSH CSU CAD HSTN HSTC HL1
        go_wp2_with fail
        go_roundw
        case rel => exact ⟨k + 1, L, by omega, by go_num, (own_next HO.out D), HX, BU⟩
        case measure => simp [intOf]; omega
      have HAT : Hid (atB x t = true) := by show _ = _; unfold atB; rw [decide_eq_true h1, decide_eq_true h2]; rfl
      clear c0 c1 c2 c3 c4 c5 HOUT
      go_upto_region 7 with fail
      go_cut [11, 12] from 18 to 73 (fun sx sy wx => ∃ g : Nat, sx = .pointer (some ⟨g, 0, none⟩) ∧ sy = .bool b ∧ Blk wx g 46 #[.int .i64 (Wsh.qn b (shareL L x.ow - partQ x).num), .int .i64 (Wsh.qn b ((shareL L x.ow - partQ x).den : Int))] ∧ Below U.heap.size U wx)
      case first =>
        have HMK1 := Lib.hid (fun (W : World) (hW : Below U.heap.size U W) => (⟨⟨(hW.cell (p := ⟨wr.heap.size, 0, none⟩) (lz)).trans z0, (hW.cell (p := ⟨wr.heap.size, 2, none⟩) (lz)).trans z2, (hW.cell (p := ⟨wr.heap.size, 3, none⟩) (lz)).trans z3⟩, hW⟩ : (W.cell? ⟨wr.heap.size, 0, none⟩ = some (.int .i64 x.ow) ∧ W.cell? ⟨wr.heap.size, 2, none⟩ = some (.int .i64 x.n) ∧ W.cell? ⟨wr.heap.size, 3, none⟩ = some (.int .i64 x.d)) ∧ Below U.heap.size U W))
        refine wp_region_held_drew (S := (fun w' => (w'.cell? ⟨wr.heap.size, 0, none⟩ = some (.int .i64 x.ow) ∧ w'.cell? ⟨wr.heap.size, 2, none⟩ = some (.int .i64 x.n) ∧ w'.cell? ⟨wr.heap.size, 3, none⟩ = some (.int .i64 x.d)) ∧ Below U.heap.size U w')) (by kernel_rfl) ?_ (fun hHeld => ?_)
        · exact ⟨⟨z0, z2, z3⟩, (Below.refl _ _).drew⟩
        refine wpAnyH_take (i := 0) (oi := ?ooa2_) (v := ?vva2_) ?hia2_ (by kernel_rfl) ?h3a2_ ?h4a2_ ?h5a2_ ?h6a2_ (by assumption) ?h8a2_
        case hia2_ => (simp only [List.getElem?_toArray, List.getElem?_cons_succ, List.getElem?_cons_zero]; rfl)
        case h3a2_ => kernel_rfl
        case h4a2_ => kernel_rfl
        case h6a2_ => (refine Or.inl ⟨by rfl, ?_⟩; intro w hSw; (try dsimp only at hSw); (go_simp <;> with_reducible rfl))
        case h5a2_ => exact fun _ _ _ h => h
        try simp only [Act.put, List.setIfInBounds_toArray, List.set_cons_zero, List.set_cons_succ]
        refine wpAnyH_take (i := 1) (oi := ?ooa3_) (v := ?vva3_) ?hia3_ (by kernel_rfl) ?h3a3_ ?h4a3_ ?h5a3_ ?h6a3_ (by assumption) ?h8a3_
        case hia3_ => (simp only [List.getElem?_toArray, List.getElem?_cons_succ, List.getElem?_cons_zero]; rfl)
        case h3a3_ => kernel_rfl
        case h4a3_ => kernel_rfl
        case h6a3_ => (refine Or.inl ⟨by rfl, ?_⟩; intro w hSw; (try dsimp only at hSw); (go_simp <;> with_reducible rfl))
        case h5a3_ => exact fun _ _ _ h => h
        try simp only [Act.put, List.setIfInBounds_toArray, List.set_cons_zero, List.set_cons_succ]
        refine wpAnyH_take (i := 2) (oi := ?ooa4_) (v := ?vva4_) ?hia4_ (by kernel_rfl) ?h3a4_ ?h4a4_ ?h5a4_ ?h6a4_ (by assumption) ?h8a4_
        case hia4_ => (simp only [List.getElem?_toArray, List.getElem?_cons_succ, List.getElem?_cons_zero]; rfl)
        case h3a4_ => kernel_rfl
        case h4a4_ => kernel_rfl
        case h6a4_ => (refine Or.inl ⟨by rfl, ?_⟩; intro w hSw; (try dsimp only at hSw); (go_simp <;> with_reducible rfl))
        case h5a4_ => exact fun _ _ _ h => h
        try simp only [Act.put, List.setIfInBounds_toArray, List.set_cons_zero, List.set_cons_succ]
        refine wpAnyH_take (i := 4) (oi := ?ooa5_) (v := ?vva5_) ?hia5_ (by kernel_rfl) ?h3a5_ ?h4a5_ ?h5a5_ ?h6a5_ (by assumption) ?h8a5_
        case hia5_ => (simp only [List.getElem?_toArray, List.getElem?_cons_succ, List.getElem?_cons_zero]; rfl)
        case h3a5_ => kernel_rfl
        case h4a5_ => kernel_rfl
        case h6a5_ => (refine Or.inl ⟨by rfl, ?_⟩; intro w hSw; (try dsimp only at hSw); (go_simp <;> with_reducible rfl))
        case h5a5_ => exact fun _ _ _ h => h
        try simp only [Act.put, List.setIfInBounds_toArray, List.set_cons_zero, List.set_cons_succ]
        refine wpAnyH_take (i := 5) (oi := ?ooa6_) (v := ?vva6_) ?hia6_ (by kernel_rfl) ?h3a6_ ?h4a6_ ?h5a6_ ?h6a6_ (by assumption) ?h8a6_
        case hia6_ => (simp only [List.getElem?_toArray, List.getElem?_cons_succ, List.getElem?_cons_zero]; rfl)
        case h3a6_ => kernel_rfl
        case h4a6_ => kernel_rfl
        case h6a6_ => (refine Or.inl ⟨by rfl, ?_⟩; intro w hSw; (try dsimp only at hSw); (go_simp <;> with_reducible rfl))
        case h5a6_ => exact fun _ _ _ h => h
        try simp only [Act.put, List.setIfInBounds_toArray, List.set_cons_zero, List.set_cons_succ]
        refine wpAnyH_ready (rs := [3, 10]) (by kernel_rfl) (by simp) (AllReadyH.cons (o := ?ooa7_q0) ?hia7_q0 (fun K hK => ?hka7_q0) (AllReadyH.cons (o := ?ooa7_q1) ?hia7_q1 (fun K hK => ?hka7_q1) AllReadyH.nil))
        case hia7_q0 => (simp only [List.getElem?_toArray, List.getElem?_cons_succ, List.getElem?_cons_zero]; rfl)
        case hia7_q1 => (simp only [List.getElem?_toArray, List.getElem?_cons_succ, List.getElem?_cons_zero]; rfl)
        case hka7_q0 =>
          (rw [if_pos (by rfl)]; go_simp; refine (CSH.out _ hHeld.2).mono ?_; rintro e p1_ ⟨rfl, hb⟩; go_wp2_with fail; refine hK.out _ _ (HMK1.out _ (bel_tr hHeld.2 hb)) (fun hHeld => ?_); clear hK K)
          try simp only [Act.put, List.setIfInBounds_toArray, List.set_cons_zero, List.set_cons_succ]
          refine wpAnyH_ready (rs := [6, 10]) (by kernel_rfl) (by simp) (AllReadyH.cons (o := ?ooa8_q0) ?hia8_q0 (fun K hK => ?hka8_q0) (AllReadyH.cons (o := ?ooa8_q1) ?hia8_q1 (fun K hK => ?hka8_q1) AllReadyH.nil))
          case hia8_q0 => (simp only [List.getElem?_toArray, List.getElem?_cons_succ, List.getElem?_cons_zero]; rfl)
          case hia8_q1 => (simp only [List.getElem?_toArray, List.getElem?_cons_succ, List.getElem?_cons_zero]; rfl)
          case hka8_q0 =>
            (rw [if_pos (by rfl)]; go_simp; refine (CSU.out _).mono ?_; rintro e p2_ ⟨rfl, hb⟩; go_wp2_with fail; refine hK.out _ _ (HMK1.out _ (bel_tr hHeld.2 hb)) (fun hHeld => ?_); clear hK K)
            try simp only [Act.put, List.setIfInBounds_toArray, List.set_cons_zero, List.set_cons_succ]
            refine wpAnyH_take (i := 7) (oi := ?ooa9_) (v := ?vva9_) ?hia9_ (by kernel_rfl) ?h3a9_ ?h4a9_ ?h5a9_ ?h6a9_ (by assumption) ?h8a9_
            case hia9_ => (simp only [List.getElem?_toArray, List.getElem?_cons_succ, List.getElem?_cons_zero]; rfl)
            case h3a9_ => kernel_rfl
            case h4a9_ => kernel_rfl
            case h6a9_ => (refine Or.inl ⟨by rfl, ?_⟩; intro w hSw; (try dsimp only at hSw); (go_simp <;> with_reducible rfl))
            case h5a9_ => exact fun _ _ _ h => h
            try simp only [Act.put, List.setIfInBounds_toArray, List.set_cons_zero, List.set_cons_succ]
            refine wpAnyH_take (i := 8) (oi := ?ooa10_) (v := ?vva10_) ?hia10_ (by kernel_rfl) ?h3a10_ ?h4a10_ ?h5a10_ ?h6a10_ (by assumption) ?h8a10_
            case hia10_ => (simp only [List.getElem?_toArray, List.getElem?_cons_succ, List.getElem?_cons_zero]; rfl)
            case h3a10_ => kernel_rfl
            case h4a10_ => kernel_rfl
            case h6a10_ => (refine Or.inl ⟨by rfl, ?_⟩; intro w hSw; (try dsimp only at hSw); (go_simp <;> with_reducible rfl))
            case h5a10_ => exact fun _ _ _ h => h
            try simp only [Act.put, List.setIfInBounds_toArray, List.set_cons_zero, List.set_cons_succ]
            refine wpAnyH_take (i := 9) (oi := ?ooa11_) (v := ?vva11_) ?hia11_ (by kernel_rfl) ?h3a11_ ?h4a11_ ?h5a11_ ?h6a11_ (by assumption) ?h8a11_
            case hia11_ => (simp only [List.getElem?_toArray, List.getElem?_cons_succ, List.getElem?_cons_zero]; rfl)
            case h3a11_ => kernel_rfl
            case h4a11_ => kernel_rfl
            case h6a11_ => (refine Or.inl ⟨by rfl, ?_⟩; intro w hSw; (try dsimp only at hSw); (go_simp <;> with_reducible rfl))
            case h5a11_ => exact fun _ _ _ h => h
            try simp only [Act.put, List.setIfInBounds_toArray, List.set_cons_zero, List.set_cons_succ]
            refine wpAnyH_ready (rs := [10]) (by kernel_rfl) (by simp) (AllReadyH.cons (o := ?ooa12_q0) ?hia12_q0 (fun K hK => ?hka12_q0) AllReadyH.nil)
            case hia12_q0 => (simp only [List.getElem?_toArray, List.getElem?_cons_succ, List.getElem?_cons_zero]; rfl)
            case hka12_q0 =>
              (rw [if_pos (by rfl)]; go_simp; have F10 := Lib.hid (Blk.new p2_ 46 #[.int .i64 0, .int .i64 0]); have EE := HMK1.out _ (hHeld.2.alloc hHeld.2.size (.cells #[.int .i64 0, .int .i64 0] 46)); have L10 := hHeld.2.size; generalize p2_.alloc (.cells #[.int .i64 0, .int .i64 0] 46) = W10a at F10 EE ⊢; generalize p2_.heap.size = g10 at F10 L10 ⊢; refine hK.out _ _ (EE) (fun hHeld => ?_); clear hK K)
              try simp only [Act.put, List.setIfInBounds_toArray, List.set_cons_zero, List.set_cons_succ]
              refine wpAnyH_ready (rs := [11]) (by kernel_rfl) (by simp) (AllReadyH.cons (o := ?ooa13_q0) ?hia13_q0 (fun K hK => ?hka13_q0) AllReadyH.nil)
              case hia13_q0 => (simp only [List.getElem?_toArray, List.getElem?_cons_succ, List.getElem?_cons_zero]; rfl)
              case hka13_q0 =>
                (rw [if_pos (by rfl)]; have fc0 := F10.out.cell 0; have ff0 := F10.out.frozen 0; have fc1 := F10.out.cell 1; have ff1 := F10.out.frozen 1; simp only [List.getElem?_toArray, List.getElem?_cons_zero, List.getElem?_cons_succ] at fc0 fc1; go_simp; have FF10 : Hid (Blk _ g10 46 #[.int .i64 (Wsh.qn b (shareL L x.ow - partQ x).num), .int .i64 (Wsh.qn b ((shareL L x.ow - partQ x).den : Int))]) := Lib.hid (((F10.out).set_ 0 (.int .i64 (Wsh.qn b (shareL L x.ow - partQ x).num))).set_ 1 (.int .i64 (Wsh.qn b ((shareL L x.ow - partQ x).den : Int)))); have EE := HMK1.out _ (((hHeld.2).setCell (p := ⟨g10, 0, none⟩) L10 (.int .i64 (Wsh.qn b (shareL L x.ow - partQ x).num))).setCell (p := ⟨g10, 1, none⟩) L10 (.int .i64 (Wsh.qn b ((shareL L x.ow - partQ x).den : Int)))); generalize World.setCell (World.setCell (_) ⟨g10, 0, none⟩ (.int .i64 (Wsh.qn b (shareL L x.ow - partQ x).num))) ⟨g10, 1, none⟩ (.int .i64 (Wsh.qn b ((shareL L x.ow - partQ x).den : Int))) = W10_13s at FF10 EE ⊢; clear fc0 ff0 fc1 ff1; replace F10 := FF10; clear FF10; refine hK.out _ _ (EE) (fun hHeld => ?_); clear hK K)
                try simp only [Act.put, List.setIfInBounds_toArray, List.set_cons_zero, List.set_cons_succ]
                refine wpAnyH_take (i := 12) (oi := ?ooa14_) (v := ?vva14_) ?hia14_ (by kernel_rfl) ?h3a14_ ?h4a14_ ?h5a14_ ?h6a14_ (by assumption) ?h8a14_
                case hia14_ => (simp only [List.getElem?_toArray, List.getElem?_cons_succ, List.getElem?_cons_zero]; rfl)
                case h3a14_ => kernel_rfl
                case h4a14_ => kernel_rfl
                case h6a14_ => (refine Or.inl ⟨by rfl, ?_⟩; intro w hSw; (try dsimp only at hSw); (go_simp <;> with_reducible rfl))
                case h5a14_ => exact fun _ _ _ h => h
                try simp only [Act.put, List.setIfInBounds_toArray, List.set_cons_zero, List.set_cons_succ]
                refine wpAnyH_done (by kernel_rfl) ?_ _
                clear HMK1
                go_wp2_with fail
                go_meet
                exact ⟨g10, rfl, rfl, F10.out, hHeld.2⟩
          case hka8_q1 =>
            (rw [if_pos (by rfl)]; go_simp; have F10 := Lib.hid (Blk.new p1_ 46 #[.int .i64 0, .int .i64 0]); have EE := HMK1.out _ (hHeld.2.alloc hHeld.2.size (.cells #[.int .i64 0, .int .i64 0] 46)); have L10 := hHeld.2.size; generalize p1_.alloc (.cells #[.int .i64 0, .int .i64 0] 46) = W10a at F10 EE ⊢; generalize p1_.heap.size = g10 at F10 L10 ⊢; refine hK.out _ _ (EE) (fun hHeld => ?_); clear hK K)
            try simp only [Act.put, List.setIfInBounds_toArray, List.set_cons_zero, List.set_cons_succ]
            refine wpAnyH_ready (rs := [6]) (by kernel_rfl) (by simp) (AllReadyH.cons (o := ?ooa15_q0) ?hia15_q0 (fun K hK => ?hka15_q0) AllReadyH.nil)
            case hia15_q0 => (simp only [List.getElem?_toArray, List.getElem?_cons_succ, List.getElem?_cons_zero]; rfl)
            case hka15_q0 =>
              (rw [if_pos (by rfl)]; go_simp; refine (CSU.out _).mono ?_; rintro e p2_ ⟨rfl, hb⟩; replace F10 := Lib.hid (F10.out.next hb); go_wp2_with fail; refine hK.out _ _ (HMK1.out _ (bel_tr hHeld.2 hb)) (fun hHeld => ?_); clear hK K)
              try simp only [Act.put, List.setIfInBounds_toArray, List.set_cons_zero, List.set_cons_succ]
              refine wpAnyH_take (i := 7) (oi := ?ooa16_) (v := ?vva16_) ?hia16_ (by kernel_rfl) ?h3a16_ ?h4a16_ ?h5a16_ ?h6a16_ (by assumption) ?h8a16_
              case hia16_ => (simp only [List.getElem?_toArray, List.getElem?_cons_succ, List.getElem?_cons_zero]; rfl)
              case h3a16_ => kernel_rfl
              case h4a16_ => kernel_rfl
              case h6a16_ => (refine Or.inl ⟨by rfl, ?_⟩; intro w hSw; (try dsimp only at hSw); (go_simp <;> with_reducible rfl))
              case h5a16_ => exact fun _ _ _ h => h
              try simp only [Act.put, List.setIfInBounds_toArray, List.set_cons_zero, List.set_cons_succ]
              refine wpAnyH_take (i := 8) (oi := ?ooa17_) (v := ?vva17_) ?hia17_ (by kernel_rfl) ?h3a17_ ?h4a17_ ?h5a17_ ?h6a17_ (by assumption) ?h8a17_
              case hia17_ => (simp only [List.getElem?_toArray, List.getElem?_cons_succ, List.getElem?_cons_zero]; rfl)
              case h3a17_ => kernel_rfl
              case h4a17_ => kernel_rfl
              case h6a17_ => (refine Or.inl ⟨by rfl, ?_⟩; intro w hSw; (try dsimp only at hSw); (go_simp <;> with_reducible rfl))
              case h5a17_ => exact fun _ _ _ h => h
              try simp only [Act.put, List.setIfInBounds_toArray, List.set_cons_zero, List.set_cons_succ]
              refine wpAnyH_take (i := 9) (oi := ?ooa18_) (v := ?vva18_) ?hia18_ (by kernel_rfl) ?h3a18_ ?h4a18_ ?h5a18_ ?h6a18_ (by assumption) ?h8a18_
              case hia18_ => (simp only [List.getElem?_toArray, List.getElem?_cons_succ, List.getElem?_cons_zero]; rfl)
              case h3a18_ => kernel_rfl
              case h4a18_ => kernel_rfl
              case h6a18_ => (refine Or.inl ⟨by rfl, ?_⟩; intro w hSw; (try dsimp only at hSw); (go_simp <;> with_reducible rfl))
              case h5a18_ => exact fun _ _ _ h => h
              try simp only [Act.put, List.setIfInBounds_toArray, List.set_cons_zero, List.set_cons_succ]
              refine wpAnyH_ready (rs := [11]) (by kernel_rfl) (by simp) (AllReadyH.cons (o := ?ooa19_q0) ?hia19_q0 (fun K hK => ?hka19_q0) AllReadyH.nil)
              case hia19_q0 => (simp only [List.getElem?_toArray, List.getElem?_cons_succ, List.getElem?_cons_zero]; rfl)
              case hka19_q0 =>
                (rw [if_pos (by rfl)]; have fc0 := F10.out.cell 0; have ff0 := F10.out.frozen 0; have fc1 := F10.out.cell 1; have ff1 := F10.out.frozen 1; simp only [List.getElem?_toArray, List.getElem?_cons_zero, List.getElem?_cons_succ] at fc0 fc1; go_simp; have FF10 : Hid (Blk _ g10 46 #[.int .i64 (Wsh.qn b (shareL L x.ow - partQ x).num), .int .i64 (Wsh.qn b ((shareL L x.ow - partQ x).den : Int))]) := Lib.hid (((F10.out).set_ 0 (.int .i64 (Wsh.qn b (shareL L x.ow - partQ x).num))).set_ 1 (.int .i64 (Wsh.qn b ((shareL L x.ow - partQ x).den : Int)))); have EE := HMK1.out _ (((hHeld.2).setCell (p := ⟨g10, 0, none⟩) L10 (.int .i64 (Wsh.qn b (shareL L x.ow - partQ x).num))).setCell (p := ⟨g10, 1, none⟩) L10 (.int .i64 (Wsh.qn b ((shareL L x.ow - partQ x).den : Int)))); generalize World.setCell (World.setCell (_) ⟨g10, 0, none⟩ (.int .i64 (Wsh.qn b (shareL L x.ow - partQ x).num))) ⟨g10, 1, none⟩ (.int .i64 (Wsh.qn b ((shareL L x.ow - partQ x).den : Int))) = W10_19s at FF10 EE ⊢; clear fc0 ff0 fc1 ff1; replace F10 := FF10; clear FF10; refine hK.out _ _ (EE) (fun hHeld => ?_); clear hK K)
                try simp only [Act.put, List.setIfInBounds_toArray, List.set_cons_zero, List.set_cons_succ]
                refine wpAnyH_take (i := 12) (oi := ?ooa20_) (v := ?vva20_) ?hia20_ (by kernel_rfl) ?h3a20_ ?h4a20_ ?h5a20_ ?h6a20_ (by assumption) ?h8a20_
                case hia20_ => (simp only [List.getElem?_toArray, List.getElem?_cons_succ, List.getElem?_cons_zero]; rfl)
                case h3a20_ => kernel_rfl
                case h4a20_ => kernel_rfl
                case h6a20_ => (refine Or.inl ⟨by rfl, ?_⟩; intro w hSw; (try dsimp only at hSw); (go_simp <;> with_reducible rfl))
                case h5a20_ => exact fun _ _ _ h => h
                try simp only [Act.put, List.setIfInBounds_toArray, List.set_cons_zero, List.set_cons_succ]
                refine wpAnyH_done (by kernel_rfl) ?_ _
                clear HMK1
                go_wp2_with fail
                go_meet
                exact ⟨g10, rfl, rfl, F10.out, hHeld.2⟩
        case hka7_q1 =>
          (rw [if_pos (by rfl)]; go_simp; have F10 : Hid (Blk (U.alloc (.cells #[.int .i64 0, .int .i64 0] 46)).drew U.heap.size 46 #[.int .i64 0, .int .i64 0]) := Blk.new U 46 #[.int .i64 0, .int .i64 0]; have EE := HMK1.out (U.alloc (.cells #[.int .i64 0, .int .i64 0] 46)).drew ((Below.refl _ U).alloc (Nat.le_refl _) (.cells #[.int .i64 0, .int .i64 0] 46)).drew; have L10 : U.heap.size ≤ U.heap.size := Nat.le_refl _; generalize (U.alloc (.cells #[.int .i64 0, .int .i64 0] 46)).drew = W10a at F10 EE ⊢; obtain ⟨g10, hgf⟩ : ∃ gf, gf = U.heap.size := ⟨_, rfl⟩; rw [← hgf] at F10 ⊢; replace L10 : U.heap.size ≤ g10 := (by omega); clear hgf; refine hK.out _ _ (EE) (fun hHeld => ?_); clear hK K)
          try simp only [Act.put, List.setIfInBounds_toArray, List.set_cons_zero, List.set_cons_succ]
          refine wpAnyH_ready (rs := [3]) (by kernel_rfl) (by simp) (AllReadyH.cons (o := ?ooa21_q0) ?hia21_q0 (fun K hK => ?hka21_q0) AllReadyH.nil)
          case hia21_q0 => (simp only [List.getElem?_toArray, List.getElem?_cons_succ, List.getElem?_cons_zero]; rfl)
          case hka21_q0 =>
            (rw [if_pos (by rfl)]; go_simp; refine (CSH.out _ hHeld.2).mono ?_; rintro e p1_ ⟨rfl, hb⟩; replace F10 := Lib.hid (F10.out.next hb); go_wp2_with fail; refine hK.out _ _ (HMK1.out _ (bel_tr hHeld.2 hb)) (fun hHeld => ?_); clear hK K)
            try simp only [Act.put, List.setIfInBounds_toArray, List.set_cons_zero, List.set_cons_succ]
            refine wpAnyH_ready (rs := [6]) (by kernel_rfl) (by simp) (AllReadyH.cons (o := ?ooa22_q0) ?hia22_q0 (fun K hK => ?hka22_q0) AllReadyH.nil)
            case hia22_q0 => (simp only [List.getElem?_toArray, List.getElem?_cons_succ, List.getElem?_cons_zero]; rfl)
            case hka22_q0 =>
              (rw [if_pos (by rfl)]; go_simp; refine (CSU.out _).mono ?_; rintro e p2_ ⟨rfl, hb⟩; replace F10 := Lib.hid (F10.out.next hb); go_wp2_with fail; refine hK.out _ _ (HMK1.out _ (bel_tr hHeld.2 hb)) (fun hHeld => ?_); clear hK K)
              try simp only [Act.put, List.setIfInBounds_toArray, List.set_cons_zero, List.set_cons_succ]
              refine wpAnyH_take (i := 7) (oi := ?ooa23_) (v := ?vva23_) ?hia23_ (by kernel_rfl) ?h3a23_ ?h4a23_ ?h5a23_ ?h6a23_ (by assumption) ?h8a23_
              case hia23_ => (simp only [List.getElem?_toArray, List.getElem?_cons_succ, List.getElem?_cons_zero]; rfl)
              case h3a23_ => kernel_rfl
              case h4a23_ => kernel_rfl
              case h6a23_ => (refine Or.inl ⟨by rfl, ?_⟩; intro w hSw; (try dsimp only at hSw); (go_simp <;> with_reducible rfl))
              case h5a23_ => exact fun _ _ _ h => h
              try simp only [Act.put, List.setIfInBounds_toArray, List.set_cons_zero, List.set_cons_succ]
              refine wpAnyH_take (i := 8) (oi := ?ooa24_) (v := ?vva24_) ?hia24_ (by kernel_rfl) ?h3a24_ ?h4a24_ ?h5a24_ ?h6a24_ (by assumption) ?h8a24_
              case hia24_ => (simp only [List.getElem?_toArray, List.getElem?_cons_succ, List.getElem?_cons_zero]; rfl)
              case h3a24_ => kernel_rfl
              case h4a24_ => kernel_rfl
              case h6a24_ => (refine Or.inl ⟨by rfl, ?_⟩; intro w hSw; (try dsimp only at hSw); (go_simp <;> with_reducible rfl))
              case h5a24_ => exact fun _ _ _ h => h
              try simp only [Act.put, List.setIfInBounds_toArray, List.set_cons_zero, List.set_cons_succ]
              refine wpAnyH_take (i := 9) (oi := ?ooa25_) (v := ?vva25_) ?hia25_ (by kernel_rfl) ?h3a25_ ?h4a25_ ?h5a25_ ?h6a25_ (by assumption) ?h8a25_
              case hia25_ => (simp only [List.getElem?_toArray, List.getElem?_cons_succ, List.getElem?_cons_zero]; rfl)
              case h3a25_ => kernel_rfl
              case h4a25_ => kernel_rfl
              case h6a25_ => (refine Or.inl ⟨by rfl, ?_⟩; intro w hSw; (try dsimp only at hSw); (go_simp <;> with_reducible rfl))
              case h5a25_ => exact fun _ _ _ h => h
              try simp only [Act.put, List.setIfInBounds_toArray, List.set_cons_zero, List.set_cons_succ]
              refine wpAnyH_ready (rs := [11]) (by kernel_rfl) (by simp) (AllReadyH.cons (o := ?ooa26_q0) ?hia26_q0 (fun K hK => ?hka26_q0) AllReadyH.nil)
              case hia26_q0 => (simp only [List.getElem?_toArray, List.getElem?_cons_succ, List.getElem?_cons_zero]; rfl)
              case hka26_q0 =>
                (rw [if_pos (by rfl)]; have fc0 := F10.out.cell 0; have ff0 := F10.out.frozen 0; have fc1 := F10.out.cell 1; have ff1 := F10.out.frozen 1; simp only [List.getElem?_toArray, List.getElem?_cons_zero, List.getElem?_cons_succ] at fc0 fc1; go_simp; have FF10 : Hid (Blk _ g10 46 #[.int .i64 (Wsh.qn b (shareL L x.ow - partQ x).num), .int .i64 (Wsh.qn b ((shareL L x.ow - partQ x).den : Int))]) := Lib.hid (((F10.out).set_ 0 (.int .i64 (Wsh.qn b (shareL L x.ow - partQ x).num))).set_ 1 (.int .i64 (Wsh.qn b ((shareL L x.ow - partQ x).den : Int)))); have EE := HMK1.out _ (((hHeld.2).setCell (p := ⟨g10, 0, none⟩) L10 (.int .i64 (Wsh.qn b (shareL L x.ow - partQ x).num))).setCell (p := ⟨g10, 1, none⟩) L10 (.int .i64 (Wsh.qn b ((shareL L x.ow - partQ x).den : Int)))); generalize World.setCell (World.setCell (_) ⟨g10, 0, none⟩ (.int .i64 (Wsh.qn b (shareL L x.ow - partQ x).num))) ⟨g10, 1, none⟩ (.int .i64 (Wsh.qn b ((shareL L x.ow - partQ x).den : Int))) = W10_26s at FF10 EE ⊢; clear fc0 ff0 fc1 ff1; replace F10 := FF10; clear FF10; refine hK.out _ _ (EE) (fun hHeld => ?_); clear hK K)
                try simp only [Act.put, List.setIfInBounds_toArray, List.set_cons_zero, List.set_cons_succ]
                refine wpAnyH_take (i := 12) (oi := ?ooa27_) (v := ?vva27_) ?hia27_ (by kernel_rfl) ?h3a27_ ?h4a27_ ?h5a27_ ?h6a27_ (by assumption) ?h8a27_
                case hia27_ => (simp only [List.getElem?_toArray, List.getElem?_cons_succ, List.getElem?_cons_zero]; rfl)
                case h3a27_ => kernel_rfl
                case h4a27_ => kernel_rfl
                case h6a27_ => (refine Or.inl ⟨by rfl, ?_⟩; intro w hSw; (try dsimp only at hSw); (go_simp <;> with_reducible rfl))
                case h5a27_ => exact fun _ _ _ h => h
                try simp only [Act.put, List.setIfInBounds_toArray, List.set_cons_zero, List.set_cons_succ]
                refine wpAnyH_done (by kernel_rfl) ?_ _
                clear HMK1
                go_wp2_with fail
                go_meet
                exact ⟨g10, rfl, rfl, F10.out, hHeld.2⟩
      case rest =>
        obtain ⟨g1, rfl, rfl, F1, D1⟩ := hcut
        obtain ⟨W1, hW1⟩ : ∃ y, y = wc := ⟨_, rfl⟩
        subst hW1
        obtain ⟨r0, r1, r2, r3, r4⟩ := blk_two F1
        replace z0 := (D1.cell (p := ⟨wr.heap.size, 0, none⟩) lz).trans z0
        replace z1 := (D1.cell (p := ⟨wr.heap.size, 1, none⟩) lz).trans z1
        replace z2 := (D1.cell (p := ⟨wr.heap.size, 2, none⟩) lz).trans z2
        replace z3 := (D1.cell (p := ⟨wr.heap.size, 3, none⟩) lz).trans z3
        replace lz := Nat.lt_of_lt_of_le lz D1.size
        have BW := bel_tr BU D1
        have CST := sset bb cp L (rawL L) x.ow _ _ _ W1 (hs_below HIU.out D1) rfl (by omega) (share_ok b (shareL L x.ow - partQ x))
        rw [HL1.out] at CST
        clear z4 z5 CSH CSU F1 D1 BU D HK HL1
        go_wp2_with fail
        refine CST.mono ?_
        rintro e u8 ⟨v8, rfl, O8, C8⟩
        clear CST r0 r1 r2 r3 r4
        replace z0 := (C8.cell (p := ⟨wr.heap.size, 0, none⟩) lz).trans z0
        replace z1 := (C8.cell (p := ⟨wr.heap.size, 1, none⟩) lz).trans z1
        replace z2 := (C8.cell (p := ⟨wr.heap.size, 2, none⟩) lz).trans z2
        replace z3 := (C8.cell (p := ⟨wr.heap.size, 3, none⟩) lz).trans z3
        replace lz := Nat.lt_of_lt_of_le lz C8.size
        replace BW := bel_tr BW C8
        obtain ⟨b8, cp8, rfl, I8, hle8⟩ := own_hs2 O8
        have CSH := Lib.hid (fun W (hW : Below u8.heap.size u8 W) => sshareL b8 cp8 L1 (rawL L1) x.te W (hs_below I8 hW) rfl (by omega))
        have HI8 := Lib.hid I8
        clear O8 C8 I8
        go_upto_region 9 with fail
        go_cut [13, 14] from 18 to 73 (fun sx sy wx => ∃ g : Nat, sx = .pointer (some ⟨g, 0, none⟩) ∧ sy = .bool c ∧ Blk wx g 46 #[.int .i64 (Wsh.qn c (shareL L1 x.te + partQ x).num), .int .i64 (Wsh.qn c ((shareL L1 x.te + partQ x).den : Int))] ∧ Below u8.heap.size u8 wx)
        case first =>
          have HMK28 := Lib.hid (fun (W : World) (hW : Below u8.heap.size u8 W) => (⟨⟨(hW.cell (p := ⟨wr.heap.size, 1, none⟩) (lz)).trans z1, (hW.cell (p := ⟨wr.heap.size, 2, none⟩) (lz)).trans z2, (hW.cell (p := ⟨wr.heap.size, 3, none⟩) (lz)).trans z3⟩, hW⟩ : (W.cell? ⟨wr.heap.size, 1, none⟩ = some (.int .i64 x.te) ∧ W.cell? ⟨wr.heap.size, 2, none⟩ = some (.int .i64 x.n) ∧ W.cell? ⟨wr.heap.size, 3, none⟩ = some (.int .i64 x.d)) ∧ Below u8.heap.size u8 W))
          refine wp_region_held_drew (S := (fun w' => (w'.cell? ⟨wr.heap.size, 1, none⟩ = some (.int .i64 x.te) ∧ w'.cell? ⟨wr.heap.size, 2, none⟩ = some (.int .i64 x.n) ∧ w'.cell? ⟨wr.heap.size, 3, none⟩ = some (.int .i64 x.d)) ∧ Below u8.heap.size u8 w')) (by kernel_rfl) ?_ (fun hHeld => ?_)
          · exact ⟨⟨z1, z2, z3⟩, (Below.refl _ _).drew⟩
          refine wpAnyH_take (i := 0) (oi := ?ooa29_) (v := ?vva29_) ?hia29_ (by kernel_rfl) ?h3a29_ ?h4a29_ ?h5a29_ ?h6a29_ (by assumption) ?h8a29_
          case hia29_ => (simp only [List.getElem?_toArray, List.getElem?_cons_succ, List.getElem?_cons_zero]; rfl)
          case h3a29_ => kernel_rfl
          case h4a29_ => kernel_rfl
          case h6a29_ => (refine Or.inl ⟨by rfl, ?_⟩; intro w hSw; (try dsimp only at hSw); (go_simp <;> with_reducible rfl))
          case h5a29_ => exact fun _ _ _ h => h
          try simp only [Act.put, List.setIfInBounds_toArray, List.set_cons_zero, List.set_cons_succ]
          refine wpAnyH_take (i := 1) (oi := ?ooa30_) (v := ?vva30_) ?hia30_ (by kernel_rfl) ?h3a30_ ?h4a30_ ?h5a30_ ?h6a30_ (by assumption) ?h8a30_
          case hia30_ => (simp only [List.getElem?_toArray, List.getElem?_cons_succ, List.getElem?_cons_zero]; rfl)
          case h3a30_ => kernel_rfl
          case h4a30_ => kernel_rfl
          case h6a30_ => (refine Or.inl ⟨by rfl, ?_⟩; intro w hSw; (try dsimp only at hSw); (go_simp <;> with_reducible rfl))
          case h5a30_ => exact fun _ _ _ h => h
          try simp only [Act.put, List.setIfInBounds_toArray, List.set_cons_zero, List.set_cons_succ]
          refine wpAnyH_take (i := 2) (oi := ?ooa31_) (v := ?vva31_) ?hia31_ (by kernel_rfl) ?h3a31_ ?h4a31_ ?h5a31_ ?h6a31_ (by assumption) ?h8a31_
          case hia31_ => (simp only [List.getElem?_toArray, List.getElem?_cons_succ, List.getElem?_cons_zero]; rfl)
          case h3a31_ => kernel_rfl
          case h4a31_ => kernel_rfl
          case h6a31_ => (refine Or.inl ⟨by rfl, ?_⟩; intro w hSw; (try dsimp only at hSw); (go_simp <;> with_reducible rfl))
          case h5a31_ => exact fun _ _ _ h => h
          try simp only [Act.put, List.setIfInBounds_toArray, List.set_cons_zero, List.set_cons_succ]
          refine wpAnyH_take (i := 4) (oi := ?ooa32_) (v := ?vva32_) ?hia32_ (by kernel_rfl) ?h3a32_ ?h4a32_ ?h5a32_ ?h6a32_ (by assumption) ?h8a32_
          case hia32_ => (simp only [List.getElem?_toArray, List.getElem?_cons_succ, List.getElem?_cons_zero]; rfl)
          case h3a32_ => kernel_rfl
          case h4a32_ => kernel_rfl
          case h6a32_ => (refine Or.inl ⟨by rfl, ?_⟩; intro w hSw; (try dsimp only at hSw); (go_simp <;> with_reducible rfl))
          case h5a32_ => exact fun _ _ _ h => h
          try simp only [Act.put, List.setIfInBounds_toArray, List.set_cons_zero, List.set_cons_succ]
          refine wpAnyH_take (i := 5) (oi := ?ooa33_) (v := ?vva33_) ?hia33_ (by kernel_rfl) ?h3a33_ ?h4a33_ ?h5a33_ ?h6a33_ (by assumption) ?h8a33_
          case hia33_ => (simp only [List.getElem?_toArray, List.getElem?_cons_succ, List.getElem?_cons_zero]; rfl)
          case h3a33_ => kernel_rfl
          case h4a33_ => kernel_rfl
          case h6a33_ => (refine Or.inl ⟨by rfl, ?_⟩; intro w hSw; (try dsimp only at hSw); (go_simp <;> with_reducible rfl))
          case h5a33_ => exact fun _ _ _ h => h
          try simp only [Act.put, List.setIfInBounds_toArray, List.set_cons_zero, List.set_cons_succ]
          refine wpAnyH_ready (rs := [3, 10]) (by kernel_rfl) (by simp) (AllReadyH.cons (o := ?ooa34_q0) ?hia34_q0 (fun K hK => ?hka34_q0) (AllReadyH.cons (o := ?ooa34_q1) ?hia34_q1 (fun K hK => ?hka34_q1) AllReadyH.nil))
          case hia34_q0 => (simp only [List.getElem?_toArray, List.getElem?_cons_succ, List.getElem?_cons_zero]; rfl)
          case hia34_q1 => (simp only [List.getElem?_toArray, List.getElem?_cons_succ, List.getElem?_cons_zero]; rfl)
          case hka34_q0 =>
            (rw [if_pos (by rfl)]; go_simp; refine (CSH.out _ hHeld.2).mono ?_; rintro e p1_ ⟨rfl, hb⟩; go_wp2_with fail; refine hK.out _ _ (HMK28.out _ (bel_tr hHeld.2 hb)) (fun hHeld => ?_); clear hK K)
            try simp only [Act.put, List.setIfInBounds_toArray, List.set_cons_zero, List.set_cons_succ]
            refine wpAnyH_ready (rs := [6, 10]) (by kernel_rfl) (by simp) (AllReadyH.cons (o := ?ooa35_q0) ?hia35_q0 (fun K hK => ?hka35_q0) (AllReadyH.cons (o := ?ooa35_q1) ?hia35_q1 (fun K hK => ?hka35_q1) AllReadyH.nil))
            case hia35_q0 => (simp only [List.getElem?_toArray, List.getElem?_cons_succ, List.getElem?_cons_zero]; rfl)
            case hia35_q1 => (simp only [List.getElem?_toArray, List.getElem?_cons_succ, List.getElem?_cons_zero]; rfl)
            case hka35_q0 =>
              (rw [if_pos (by rfl)]; go_simp; refine (CAD.out _).mono ?_; rintro e p2_ ⟨rfl, hb⟩; go_wp2_with fail; refine hK.out _ _ (HMK28.out _ (bel_tr hHeld.2 hb)) (fun hHeld => ?_); clear hK K)
              try simp only [Act.put, List.setIfInBounds_toArray, List.set_cons_zero, List.set_cons_succ]
              refine wpAnyH_take (i := 7) (oi := ?ooa36_) (v := ?vva36_) ?hia36_ (by kernel_rfl) ?h3a36_ ?h4a36_ ?h5a36_ ?h6a36_ (by assumption) ?h8a36_
              case hia36_ => (simp only [List.getElem?_toArray, List.getElem?_cons_succ, List.getElem?_cons_zero]; rfl)
              case h3a36_ => kernel_rfl
              case h4a36_ => kernel_rfl
              case h6a36_ => (refine Or.inl ⟨by rfl, ?_⟩; intro w hSw; (try dsimp only at hSw); (go_simp <;> with_reducible rfl))
              case h5a36_ => exact fun _ _ _ h => h
              try simp only [Act.put, List.setIfInBounds_toArray, List.set_cons_zero, List.set_cons_succ]
              refine wpAnyH_take (i := 8) (oi := ?ooa37_) (v := ?vva37_) ?hia37_ (by kernel_rfl) ?h3a37_ ?h4a37_ ?h5a37_ ?h6a37_ (by assumption) ?h8a37_
              case hia37_ => (simp only [List.getElem?_toArray, List.getElem?_cons_succ, List.getElem?_cons_zero]; rfl)
              case h3a37_ => kernel_rfl
              case h4a37_ => kernel_rfl
              case h6a37_ => (refine Or.inl ⟨by rfl, ?_⟩; intro w hSw; (try dsimp only at hSw); (go_simp <;> with_reducible rfl))
              case h5a37_ => exact fun _ _ _ h => h
              try simp only [Act.put, List.setIfInBounds_toArray, List.set_cons_zero, List.set_cons_succ]
              refine wpAnyH_take (i := 9) (oi := ?ooa38_) (v := ?vva38_) ?hia38_ (by kernel_rfl) ?h3a38_ ?h4a38_ ?h5a38_ ?h6a38_ (by assumption) ?h8a38_
              case hia38_ => (simp only [List.getElem?_toArray, List.getElem?_cons_succ, List.getElem?_cons_zero]; rfl)
              case h3a38_ => kernel_rfl
              case h4a38_ => kernel_rfl
              case h6a38_ => (refine Or.inl ⟨by rfl, ?_⟩; intro w hSw; (try dsimp only at hSw); (go_simp <;> with_reducible rfl))
              case h5a38_ => exact fun _ _ _ h => h
              try simp only [Act.put, List.setIfInBounds_toArray, List.set_cons_zero, List.set_cons_succ]
              refine wpAnyH_ready (rs := [10]) (by kernel_rfl) (by simp) (AllReadyH.cons (o := ?ooa39_q0) ?hia39_q0 (fun K hK => ?hka39_q0) AllReadyH.nil)
              case hia39_q0 => (simp only [List.getElem?_toArray, List.getElem?_cons_succ, List.getElem?_cons_zero]; rfl)
              case hka39_q0 =>
                (rw [if_pos (by rfl)]; go_simp; have F10 := Lib.hid (Blk.new p2_ 46 #[.int .i64 0, .int .i64 0]); have EE := HMK28.out _ (hHeld.2.alloc hHeld.2.size (.cells #[.int .i64 0, .int .i64 0] 46)); have L10 := hHeld.2.size; generalize p2_.alloc (.cells #[.int .i64 0, .int .i64 0] 46) = W10a at F10 EE ⊢; generalize p2_.heap.size = g10 at F10 L10 ⊢; refine hK.out _ _ (EE) (fun hHeld => ?_); clear hK K)
                try simp only [Act.put, List.setIfInBounds_toArray, List.set_cons_zero, List.set_cons_succ]
                refine wpAnyH_ready (rs := [11]) (by kernel_rfl) (by simp) (AllReadyH.cons (o := ?ooa40_q0) ?hia40_q0 (fun K hK => ?hka40_q0) AllReadyH.nil)
                case hia40_q0 => (simp only [List.getElem?_toArray, List.getElem?_cons_succ, List.getElem?_cons_zero]; rfl)
                case hka40_q0 =>
                  (rw [if_pos (by rfl)]; have fc0 := F10.out.cell 0; have ff0 := F10.out.frozen 0; have fc1 := F10.out.cell 1; have ff1 := F10.out.frozen 1; simp only [List.getElem?_toArray, List.getElem?_cons_zero, List.getElem?_cons_succ] at fc0 fc1; go_simp; have FF10 : Hid (Blk _ g10 46 #[.int .i64 (Wsh.qn c (shareL L1 x.te + partQ x).num), .int .i64 (Wsh.qn c ((shareL L1 x.te + partQ x).den : Int))]) := Lib.hid (((F10.out).set_ 0 (.int .i64 (Wsh.qn c (shareL L1 x.te + partQ x).num))).set_ 1 (.int .i64 (Wsh.qn c ((shareL L1 x.te + partQ x).den : Int)))); have EE := HMK28.out _ (((hHeld.2).setCell (p := ⟨g10, 0, none⟩) L10 (.int .i64 (Wsh.qn c (shareL L1 x.te + partQ x).num))).setCell (p := ⟨g10, 1, none⟩) L10 (.int .i64 (Wsh.qn c ((shareL L1 x.te + partQ x).den : Int)))); generalize World.setCell (World.setCell (_) ⟨g10, 0, none⟩ (.int .i64 (Wsh.qn c (shareL L1 x.te + partQ x).num))) ⟨g10, 1, none⟩ (.int .i64 (Wsh.qn c ((shareL L1 x.te + partQ x).den : Int))) = W10_40s at FF10 EE ⊢; clear fc0 ff0 fc1 ff1; replace F10 := FF10; clear FF10; refine hK.out _ _ (EE) (fun hHeld => ?_); clear hK K)
                  try simp only [Act.put, List.setIfInBounds_toArray, List.set_cons_zero, List.set_cons_succ]
                  refine wpAnyH_take (i := 12) (oi := ?ooa41_) (v := ?vva41_) ?hia41_ (by kernel_rfl) ?h3a41_ ?h4a41_ ?h5a41_ ?h6a41_ (by assumption) ?h8a41_
                  case hia41_ => (simp only [List.getElem?_toArray, List.getElem?_cons_succ, List.getElem?_cons_zero]; rfl)
                  case h3a41_ => kernel_rfl
                  case h4a41_ => kernel_rfl
                  case h6a41_ => (refine Or.inl ⟨by rfl, ?_⟩; intro w hSw; (try dsimp only at hSw); (go_simp <;> with_reducible rfl))
                  case h5a41_ => exact fun _ _ _ h => h
                  try simp only [Act.put, List.setIfInBounds_toArray, List.set_cons_zero, List.set_cons_succ]
                  refine wpAnyH_done (by kernel_rfl) ?_ _
                  clear HMK28
                  go_wp2_with fail
                  go_meet
                  exact ⟨g10, rfl, rfl, F10.out, hHeld.2⟩
            case hka35_q1 =>
              (rw [if_pos (by rfl)]; go_simp; have F10 := Lib.hid (Blk.new p1_ 46 #[.int .i64 0, .int .i64 0]); have EE := HMK28.out _ (hHeld.2.alloc hHeld.2.size (.cells #[.int .i64 0, .int .i64 0] 46)); have L10 := hHeld.2.size; generalize p1_.alloc (.cells #[.int .i64 0, .int .i64 0] 46) = W10a at F10 EE ⊢; generalize p1_.heap.size = g10 at F10 L10 ⊢; refine hK.out _ _ (EE) (fun hHeld => ?_); clear hK K)
              try simp only [Act.put, List.setIfInBounds_toArray, List.set_cons_zero, List.set_cons_succ]
              refine wpAnyH_ready (rs := [6]) (by kernel_rfl) (by simp) (AllReadyH.cons (o := ?ooa42_q0) ?hia42_q0 (fun K hK => ?hka42_q0) AllReadyH.nil)
              case hia42_q0 => (simp only [List.getElem?_toArray, List.getElem?_cons_succ, List.getElem?_cons_zero]; rfl)
              case hka42_q0 =>
                (rw [if_pos (by rfl)]; go_simp; refine (CAD.out _).mono ?_; rintro e p2_ ⟨rfl, hb⟩; replace F10 := Lib.hid (F10.out.next hb); go_wp2_with fail; refine hK.out _ _ (HMK28.out _ (bel_tr hHeld.2 hb)) (fun hHeld => ?_); clear hK K)
                try simp only [Act.put, List.setIfInBounds_toArray, List.set_cons_zero, List.set_cons_succ]
                refine wpAnyH_take (i := 7) (oi := ?ooa43_) (v := ?vva43_) ?hia43_ (by kernel_rfl) ?h3a43_ ?h4a43_ ?h5a43_ ?h6a43_ (by assumption) ?h8a43_
                case hia43_ => (simp only [List.getElem?_toArray, List.getElem?_cons_succ, List.getElem?_cons_zero]; rfl)
                case h3a43_ => kernel_rfl
                case h4a43_ => kernel_rfl
                case h6a43_ => (refine Or.inl ⟨by rfl, ?_⟩; intro w hSw; (try dsimp only at hSw); (go_simp <;> with_reducible rfl))
                case h5a43_ => exact fun _ _ _ h => h
                try simp only [Act.put, List.setIfInBounds_toArray, List.set_cons_zero, List.set_cons_succ]
                refine wpAnyH_take (i := 8) (oi := ?ooa44_) (v := ?vva44_) ?hia44_ (by kernel_rfl) ?h3a44_ ?h4a44_ ?h5a44_ ?h6a44_ (by assumption) ?h8a44_
                case hia44_ => (simp only [List.getElem?_toArray, List.getElem?_cons_succ, List.getElem?_cons_zero]; rfl)
                case h3a44_ => kernel_rfl
                case h4a44_ => kernel_rfl
                case h6a44_ => (refine Or.inl ⟨by rfl, ?_⟩; intro w hSw; (try dsimp only at hSw); (go_simp <;> with_reducible rfl))
                case h5a44_ => exact fun _ _ _ h => h
                try simp only [Act.put, List.setIfInBounds_toArray, List.set_cons_zero, List.set_cons_succ]
                refine wpAnyH_take (i := 9) (oi := ?ooa45_) (v := ?vva45_) ?hia45_ (by kernel_rfl) ?h3a45_ ?h4a45_ ?h5a45_ ?h6a45_ (by assumption) ?h8a45_
                case hia45_ => (simp only [List.getElem?_toArray, List.getElem?_cons_succ, List.getElem?_cons_zero]; rfl)
                case h3a45_ => kernel_rfl
                case h4a45_ => kernel_rfl
                case h6a45_ => (refine Or.inl ⟨by rfl, ?_⟩; intro w hSw; (try dsimp only at hSw); (go_simp <;> with_reducible rfl))
                case h5a45_ => exact fun _ _ _ h => h
                try simp only [Act.put, List.setIfInBounds_toArray, List.set_cons_zero, List.set_cons_succ]
                refine wpAnyH_ready (rs := [11]) (by kernel_rfl) (by simp) (AllReadyH.cons (o := ?ooa46_q0) ?hia46_q0 (fun K hK => ?hka46_q0) AllReadyH.nil)
                case hia46_q0 => (simp only [List.getElem?_toArray, List.getElem?_cons_succ, List.getElem?_cons_zero]; rfl)
                case hka46_q0 =>
                  (rw [if_pos (by rfl)]; have fc0 := F10.out.cell 0; have ff0 := F10.out.frozen 0; have fc1 := F10.out.cell 1; have ff1 := F10.out.frozen 1; simp only [List.getElem?_toArray, List.getElem?_cons_zero, List.getElem?_cons_succ] at fc0 fc1; go_simp; have FF10 : Hid (Blk _ g10 46 #[.int .i64 (Wsh.qn c (shareL L1 x.te + partQ x).num), .int .i64 (Wsh.qn c ((shareL L1 x.te + partQ x).den : Int))]) := Lib.hid (((F10.out).set_ 0 (.int .i64 (Wsh.qn c (shareL L1 x.te + partQ x).num))).set_ 1 (.int .i64 (Wsh.qn c ((shareL L1 x.te + partQ x).den : Int)))); have EE := HMK28.out _ (((hHeld.2).setCell (p := ⟨g10, 0, none⟩) L10 (.int .i64 (Wsh.qn c (shareL L1 x.te + partQ x).num))).setCell (p := ⟨g10, 1, none⟩) L10 (.int .i64 (Wsh.qn c ((shareL L1 x.te + partQ x).den : Int)))); generalize World.setCell (World.setCell (_) ⟨g10, 0, none⟩ (.int .i64 (Wsh.qn c (shareL L1 x.te + partQ x).num))) ⟨g10, 1, none⟩ (.int .i64 (Wsh.qn c ((shareL L1 x.te + partQ x).den : Int))) = W10_46s at FF10 EE ⊢; clear fc0 ff0 fc1 ff1; replace F10 := FF10; clear FF10; refine hK.out _ _ (EE) (fun hHeld => ?_); clear hK K)
                  try simp only [Act.put, List.setIfInBounds_toArray, List.set_cons_zero, List.set_cons_succ]
                  refine wpAnyH_take (i := 12) (oi := ?ooa47_) (v := ?vva47_) ?hia47_ (by kernel_rfl) ?h3a47_ ?h4a47_ ?h5a47_ ?h6a47_ (by assumption) ?h8a47_
                  case hia47_ => (simp only [List.getElem?_toArray, List.getElem?_cons_succ, List.getElem?_cons_zero]; rfl)
                  case h3a47_ => kernel_rfl
                  case h4a47_ => kernel_rfl
                  case h6a47_ => (refine Or.inl ⟨by rfl, ?_⟩; intro w hSw; (try dsimp only at hSw); (go_simp <;> with_reducible rfl))
                  case h5a47_ => exact fun _ _ _ h => h
                  try simp only [Act.put, List.setIfInBounds_toArray, List.set_cons_zero, List.set_cons_succ]
                  refine wpAnyH_done (by kernel_rfl) ?_ _
                  clear HMK28
                  go_wp2_with fail
                  go_meet
                  exact ⟨g10, rfl, rfl, F10.out, hHeld.2⟩
          case hka34_q1 =>
            (rw [if_pos (by rfl)]; go_simp; have F10 : Hid (Blk (u8.alloc (.cells #[.int .i64 0, .int .i64 0] 46)).drew u8.heap.size 46 #[.int .i64 0, .int .i64 0]) := Blk.new u8 46 #[.int .i64 0, .int .i64 0]; have EE := HMK28.out (u8.alloc (.cells #[.int .i64 0, .int .i64 0] 46)).drew ((Below.refl _ u8).alloc (Nat.le_refl _) (.cells #[.int .i64 0, .int .i64 0] 46)).drew; have L10 : u8.heap.size ≤ u8.heap.size := Nat.le_refl _; generalize (u8.alloc (.cells #[.int .i64 0, .int .i64 0] 46)).drew = W10a at F10 EE ⊢; obtain ⟨g10, hgf⟩ : ∃ gf, gf = u8.heap.size := ⟨_, rfl⟩; rw [← hgf] at F10 ⊢; replace L10 : u8.heap.size ≤ g10 := (by omega); clear hgf; refine hK.out _ _ (EE) (fun hHeld => ?_); clear hK K)
            try simp only [Act.put, List.setIfInBounds_toArray, List.set_cons_zero, List.set_cons_succ]
            refine wpAnyH_ready (rs := [3]) (by kernel_rfl) (by simp) (AllReadyH.cons (o := ?ooa48_q0) ?hia48_q0 (fun K hK => ?hka48_q0) AllReadyH.nil)
            case hia48_q0 => (simp only [List.getElem?_toArray, List.getElem?_cons_succ, List.getElem?_cons_zero]; rfl)
            case hka48_q0 =>
              (rw [if_pos (by rfl)]; go_simp; refine (CSH.out _ hHeld.2).mono ?_; rintro e p1_ ⟨rfl, hb⟩; replace F10 := Lib.hid (F10.out.next hb); go_wp2_with fail; refine hK.out _ _ (HMK28.out _ (bel_tr hHeld.2 hb)) (fun hHeld => ?_); clear hK K)
              try simp only [Act.put, List.setIfInBounds_toArray, List.set_cons_zero, List.set_cons_succ]
              refine wpAnyH_ready (rs := [6]) (by kernel_rfl) (by simp) (AllReadyH.cons (o := ?ooa49_q0) ?hia49_q0 (fun K hK => ?hka49_q0) AllReadyH.nil)
              case hia49_q0 => (simp only [List.getElem?_toArray, List.getElem?_cons_succ, List.getElem?_cons_zero]; rfl)
              case hka49_q0 =>
                (rw [if_pos (by rfl)]; go_simp; refine (CAD.out _).mono ?_; rintro e p2_ ⟨rfl, hb⟩; replace F10 := Lib.hid (F10.out.next hb); go_wp2_with fail; refine hK.out _ _ (HMK28.out _ (bel_tr hHeld.2 hb)) (fun hHeld => ?_); clear hK K)
                try simp only [Act.put, List.setIfInBounds_toArray, List.set_cons_zero, List.set_cons_succ]
                refine wpAnyH_take (i := 7) (oi := ?ooa50_) (v := ?vva50_) ?hia50_ (by kernel_rfl) ?h3a50_ ?h4a50_ ?h5a50_ ?h6a50_ (by assumption) ?h8a50_
                case hia50_ => (simp only [List.getElem?_toArray, List.getElem?_cons_succ, List.getElem?_cons_zero]; rfl)
                case h3a50_ => kernel_rfl
                case h4a50_ => kernel_rfl
                case h6a50_ => (refine Or.inl ⟨by rfl, ?_⟩; intro w hSw; (try dsimp only at hSw); (go_simp <;> with_reducible rfl))
                case h5a50_ => exact fun _ _ _ h => h
                try simp only [Act.put, List.setIfInBounds_toArray, List.set_cons_zero, List.set_cons_succ]
                refine wpAnyH_take (i := 8) (oi := ?ooa51_) (v := ?vva51_) ?hia51_ (by kernel_rfl) ?h3a51_ ?h4a51_ ?h5a51_ ?h6a51_ (by assumption) ?h8a51_
                case hia51_ => (simp only [List.getElem?_toArray, List.getElem?_cons_succ, List.getElem?_cons_zero]; rfl)
                case h3a51_ => kernel_rfl
                case h4a51_ => kernel_rfl
                case h6a51_ => (refine Or.inl ⟨by rfl, ?_⟩; intro w hSw; (try dsimp only at hSw); (go_simp <;> with_reducible rfl))
                case h5a51_ => exact fun _ _ _ h => h
                try simp only [Act.put, List.setIfInBounds_toArray, List.set_cons_zero, List.set_cons_succ]
                refine wpAnyH_take (i := 9) (oi := ?ooa52_) (v := ?vva52_) ?hia52_ (by kernel_rfl) ?h3a52_ ?h4a52_ ?h5a52_ ?h6a52_ (by assumption) ?h8a52_
                case hia52_ => (simp only [List.getElem?_toArray, List.getElem?_cons_succ, List.getElem?_cons_zero]; rfl)
                case h3a52_ => kernel_rfl
                case h4a52_ => kernel_rfl
                case h6a52_ => (refine Or.inl ⟨by rfl, ?_⟩; intro w hSw; (try dsimp only at hSw); (go_simp <;> with_reducible rfl))
                case h5a52_ => exact fun _ _ _ h => h
                try simp only [Act.put, List.setIfInBounds_toArray, List.set_cons_zero, List.set_cons_succ]
                refine wpAnyH_ready (rs := [11]) (by kernel_rfl) (by simp) (AllReadyH.cons (o := ?ooa53_q0) ?hia53_q0 (fun K hK => ?hka53_q0) AllReadyH.nil)
                case hia53_q0 => (simp only [List.getElem?_toArray, List.getElem?_cons_succ, List.getElem?_cons_zero]; rfl)
                case hka53_q0 =>
                  (rw [if_pos (by rfl)]; have fc0 := F10.out.cell 0; have ff0 := F10.out.frozen 0; have fc1 := F10.out.cell 1; have ff1 := F10.out.frozen 1; simp only [List.getElem?_toArray, List.getElem?_cons_zero, List.getElem?_cons_succ] at fc0 fc1; go_simp; have FF10 : Hid (Blk _ g10 46 #[.int .i64 (Wsh.qn c (shareL L1 x.te + partQ x).num), .int .i64 (Wsh.qn c ((shareL L1 x.te + partQ x).den : Int))]) := Lib.hid (((F10.out).set_ 0 (.int .i64 (Wsh.qn c (shareL L1 x.te + partQ x).num))).set_ 1 (.int .i64 (Wsh.qn c ((shareL L1 x.te + partQ x).den : Int)))); have EE := HMK28.out _ (((hHeld.2).setCell (p := ⟨g10, 0, none⟩) L10 (.int .i64 (Wsh.qn c (shareL L1 x.te + partQ x).num))).setCell (p := ⟨g10, 1, none⟩) L10 (.int .i64 (Wsh.qn c ((shareL L1 x.te + partQ x).den : Int)))); generalize World.setCell (World.setCell (_) ⟨g10, 0, none⟩ (.int .i64 (Wsh.qn c (shareL L1 x.te + partQ x).num))) ⟨g10, 1, none⟩ (.int .i64 (Wsh.qn c ((shareL L1 x.te + partQ x).den : Int))) = W10_53s at FF10 EE ⊢; clear fc0 ff0 fc1 ff1; replace F10 := FF10; clear FF10; refine hK.out _ _ (EE) (fun hHeld => ?_); clear hK K)
                  try simp only [Act.put, List.setIfInBounds_toArray, List.set_cons_zero, List.set_cons_succ]
                  refine wpAnyH_take (i := 12) (oi := ?ooa54_) (v := ?vva54_) ?hia54_ (by kernel_rfl) ?h3a54_ ?h4a54_ ?h5a54_ ?h6a54_ (by assumption) ?h8a54_
                  case hia54_ => (simp only [List.getElem?_toArray, List.getElem?_cons_succ, List.getElem?_cons_zero]; rfl)
                  case h3a54_ => kernel_rfl
                  case h4a54_ => kernel_rfl
                  case h6a54_ => (refine Or.inl ⟨by rfl, ?_⟩; intro w hSw; (try dsimp only at hSw); (go_simp <;> with_reducible rfl))
                  case h5a54_ => exact fun _ _ _ h => h
                  try simp only [Act.put, List.setIfInBounds_toArray, List.set_cons_zero, List.set_cons_succ]
                  refine wpAnyH_done (by kernel_rfl) ?_ _
                  clear HMK28
                  go_wp2_with fail
                  go_meet
                  exact ⟨g10, rfl, rfl, F10.out, hHeld.2⟩
        case rest =>
          obtain ⟨g2, rfl, rfl, F2, D2⟩ := hcut
          obtain ⟨W2, hW2⟩ : ∃ y, y = wc := ⟨_, rfl⟩
          subst hW2
          obtain ⟨r0, r1, r2, r3, r4⟩ := blk_two F2
          replace z1 := (D2.cell (p := ⟨wr.heap.size, 1, none⟩) lz).trans z1
          replace BW := bel_tr BW D2
          have CST := sset b8 cp8 L1 (rawL L1) x.te _ _ _ W2 (hs_below HI8.out D2) rfl (by omega) (share_ok c (shareL L1 x.te + partQ x))
          clear z0 z2 z3 lz CSH CAD F2 D2 HI8
          go_wp2_with fail
          refine CST.mono ?_
          rintro e u9 ⟨v9, rfl, O9, C9⟩
          have hs9 := BW.size
          replace BW := bel_tr BW C9
          clear CST r0 r1 r2 r3 r4 z1 C9
          cases b with
          | false =>
            have HN := Lib.hid (HBAD.out HAT.out (HSTN.out rfl))
            clear O9
            go_wp2_with fail
            go_returns
            exact move_no _ HN.out BW
          | true =>
            obtain ⟨e1, e2⟩ := HSTC.out rfl
            cases c with
            | false =>
              have HN := Lib.hid (HBAD.out HAT.out e1)
              clear O9 e1 e2
              go_wp2_with fail
              go_returns
              exact move_no _ HN.out BW
            | true =>
              have HX := Lib.hid (HGO.out HAT.out e1)
              rw [e2 rfl] at O9
              have O4 := Lib.hid (own_le O9 hs9)
              clear O9 e1 e2
              go_wp2_with fail
              go_roundw
              case rel => exact ⟨k + 1, stL x L, by omega, by go_num, O4.out, HX, BW⟩
              case measure => simp [intOf]; omega
    · obtain rfl : k = ls.length := by omega
      have hu := HU.out.2
      rw [List.drop_length, uO_nil] at hu
      obtain ⟨e1, e2⟩ := HSOME.out L hu.symm
      have CV := svl bb cp (rawL L) wr hI (by omega)
      have HO := Lib.hid hO
      have HE2 := Lib.hid e2
      cases hv : vlR (rawL L) with
      | false =>
        rw [hv] at CV e1
        have HN := Lib.hid e1
        clear hu e1 e2 hv hO hI
        go_wp2_with fail
        refine CV.mono ?_
        rintro e u3 ⟨rfl, C⟩
        go_wp2_with fail
        go_returns
        exact move_no _ HN.out (bel_tr B C)
      | true =>
        rw [hv] at CV e1
        have HN := Lib.hid e1
        clear hu e1 e2 hv hO hI
        go_wp2_with fail
        refine CV.mono ?_
        rintro e u3 ⟨rfl, C⟩
        go_wp2_with fail
        go_returns
        exact ⟨.slice bb (rawL L).length cp, by rw [HN.out]; rfl, fun c => absurd (HN.out.symm.trans c) (by decide), fun _ => by rw [HE2.out]; exact own_next HO.out C, bel_tr B C⟩

set_option maxRecDepth 100000 in
set_option maxHeartbeats 4000000 in
/-- spec.UsersAt -/
theorem sUsers (a : Option Addr) (cap : Nat) (hs : List Hd) (A : Option Addr) (capz : Nat) (ls : List Lr) (t : Int) (w : World) (h : IsHs w a hs) (hn : hs.length ≤ 1048576) (hz : IsLs w A ls) (hzn : ls.length ≤ 1048576) :
    Calls Try.prog 11 #[.slice a hs.length cap, .slice A ls.length capz, .int .i64 t] w (MoveV w (usB hs ls t) (usL hs ls t)) := by
  have C1 := svl a cap hs w h hn
  cases hv : vlR hs with
  | false =>
    have HN := Lib.hid (us_lz (t := t) (hs := hs) (ls := ls) (by cases hl : lzB hs ls with | false => rfl | true => rw [(lz_vl hl).1] at hv; cases hv))
    rw [hv] at C1
    clear h hz hv
    go_enter Try.func11, Try.ntmps11
    go_wp2_with fail
    refine C1.mono ?_
    rintro e u1 ⟨rfl, C⟩
    go_wp2_with fail
    go_returns
    exact move_no _ HN.out C
  | true =>
    have C2 : Hid (∀ W, Below w.heap.size w W → Calls Try.prog 37 #[.slice a hs.length cap, .slice A ls.length capz] W fun e w' => e = .returned (.bool (lzB hs ls)) ∧ Below W.heap.size W w') := fun W hW => by
      rw [lv_lz ls hv]; exact svLzA a A cap capz hs ls W (hs_below h hW) hn (ls_below hz hW) hzn hv
    rw [hv] at C1
    cases hl : lzB hs ls with
    | false =>
      have HN := Lib.hid (us_lz (t := t) hl)
      rw [hl] at C2
      clear h hz hv hl
      go_enter Try.func11, Try.ntmps11
      go_wp2_with fail
      refine C1.mono ?_
      rintro e u1 ⟨rfl, C⟩
      go_wp2_with fail
      refine (C2.out _ C).mono ?_
      rintro e u2 ⟨rfl, D⟩
      replace C := bel_tr C D
      go_wp2_with fail
      go_returns
      exact move_no _ HN.out C
    | true =>
      rw [hl] at C2
      by_cases t0 : 0 ≤ t ∧ t ≤ 5000
      · have CU := Lib.hid (fun W (hW : Below w.heap.size w W) => susersAt a cap hs A capz ls t W (hs_below h hW) hn (ls_below hz hW) hl t0.1 t0.2)
        have CR := Lib.hid (fun W => inRange_yes t 0 5000 W t0.1 t0.2)
        clear h hz hv hl
        go_enter Try.func11, Try.ntmps11
        go_wp2_with fail
        refine C1.mono ?_
        rintro e u1 ⟨rfl, C⟩
        go_wp2_with fail
        refine (C2.out _ C).mono ?_
        rintro e u2 ⟨rfl, D⟩
        replace C := bel_tr C D
        go_wp2_with fail
        refine (CR.out _).mono ?_
        rintro e u3 ⟨rfl, rfl⟩
        go_wp2_with fail
        refine (CU.out _ C).mono ?_
        rintro e u4 ⟨v4, rfl, m1, m2, E⟩
        have hs4 := C.size
        go_wp2_with fail
        go_returns
        exact ⟨v4, rfl, m1, fun c => own_le (m2 c) hs4, bel_tr C E⟩
      · have HN := Lib.hid (us_time (hs := hs) (ls := ls) (t := t) (by omega))
        have CR := Lib.hid (fun W => inRange_no t 0 5000 W (by omega))
        clear h hz hv hl
        go_enter Try.func11, Try.ntmps11
        go_wp2_with fail
        refine C1.mono ?_
        rintro e u1 ⟨rfl, C⟩
        go_wp2_with fail
        refine (C2.out _ C).mono ?_
        rintro e u2 ⟨rfl, D⟩
        replace C := bel_tr C D
        go_wp2_with fail
        refine (CR.out _).mono ?_
        rintro e u3 ⟨rfl, rfl⟩
        go_wp2_with fail
        go_returns
        exact move_no _ HN.out C
end Go.Proofs.Ythagafkjlecagab
