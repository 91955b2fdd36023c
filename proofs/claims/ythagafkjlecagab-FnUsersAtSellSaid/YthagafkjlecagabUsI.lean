/- Who uses the water at a time, by the program. Condition: at most 1048576 holdings and leases. -/
import Derived.Test.YthagafkjlecagabUse
import Derived.Test.YthagafkjlecagabMove
import Derived.Test.YthagafkjlecagabRowT
import Derived.Test.YthagafkjlecagabSell
import Derived.Test.YthagafkjlecagabDeed
namespace Go.Proofs.Ythagafkjlecagab
open Go.RowKit
set_option linter.unusedSimpArgs false
set_option linter.unusedVariables false

set_option maxRecDepth 100000 in
set_option maxHeartbeats 6000000 in
/-- impl.UsersAt -/
theorem iUsers (a : Option Addr) (cap : Nat) (hs : List Hd) (A : Option Addr) (capz : Nat) (ls : List Lr) (t : Int) (w : World) (h : IsHs w a hs) (hn : hs.length ≤ 1048576) (hz : IsLs w A ls) (hzn : ls.length ≤ 1048576) :
    Calls Try.prog 14 #[.slice a hs.length cap, .slice A ls.length capz, .int .i64 t] w (MoveV w (usB hs ls t) (usL hs ls t)) := by
  have B := Below.refl w.heap.size w
  by_cases t0 : t < 0
  · have HN := Lib.hid (us_time (hs := hs) (ls := ls) (.inl t0))
    clear h hz
    go_enter Try.func14, Try.ntmps14
    go_wp2_with fail
    go_returns
    exact move_no _ HN.out B
  by_cases t1 : 5000 < t
  · have HN := Lib.hid (us_time (hs := hs) (ls := ls) (.inr t1))
    clear h hz
    go_enter Try.func14, Try.ntmps14
    go_wp2_with fail
    go_returns
    exact move_no _ HN.out B
  have CL := iLeases a cap hs A capz ls w h hn hz hzn
  cases hl : lzB hs ls with
  | false =>
    have HN := Lib.hid (us_lz (t := t) hl)
    rw [hl] at CL
    clear h hz hl
    go_enter Try.func14, Try.ntmps14
    go_wp2_with fail
    refine CL.mono ?_
    rintro e u ⟨rfl, C⟩
    go_wp2_with fail
    go_returns
    exact move_no _ HN.out C
  | true =>
    rw [hl] at CL
    obtain ⟨hv, hl10, htm⟩ := lz_vl hl
    obtain ⟨hraw, hinv⟩ := us_start hv
    have HSOME := Lib.hid (fun L => us_some (hs := hs) (ls := ls) (t := t) (L := L) (by omega) (by omega) hl)
    have HNONE := Lib.hid (us_none (hs := hs) (ls := ls) (t := t))
    have HI := Lib.hid h
    have HZ := Lib.hid hz
    have HT := Lib.hid htm
    have HRAW := Lib.hid hraw
    have HINV := Lib.hid hinv
    clear h hz hl hv htm hraw hinv
    go_enter Try.func14, Try.ntmps14
    go_wp2_with fail
    refine CL.mono ?_
    rintro e u1 ⟨rfl, C⟩
    replace B := bel_tr B C
    have CC := icopy a cap hs u1 (hs_below HI.out C) hn
    clear C CL
    go_wp2_with fail
    refine CC.mono ?_
    rintro e u2 ⟨v, rfl, O, C⟩
    have O1 := own_le O B.size
    replace B := bel_tr B C
    clear C CC O
    go_wp2_with fail
    go_loopw [8, 29] (fun v i wr => ∃ (k : Nat) (L : Led), k ≤ ls.length ∧ i = .int .i64 (k : Int) ∧ OwnH wr w.heap.size v (rawL L) ∧ Hid (UInv L (12 + 2 * k) ∧ uO t L (ls.drop k) = uO t (ledOf hs) ls) ∧ Below w.heap.size w wr) (fun _ i _ => ls.length - (intOf i).toNat)
    case atStart => exact ⟨0, ledOf hs, Nat.zero_le _, rfl, by rw [HRAW.out]; exact O1, ⟨HINV.out, rfl⟩, B⟩
    case round =>
      clear B O1
      obtain ⟨k, L, hk, rfl, hO, HU, B⟩ := hrel
      obtain ⟨b, cp, rfl, hI, hle⟩ := own_hs2 hO
      have hn2 : (rawL L).length ≤ 900 := by have := HU.out.1.n; rw [raw_len]; omega
      by_cases hlt : k < ls.length
      · rcases HZ.out with hd0 | ⟨g, o, rfl, hg⟩
        · rw [hd0] at hlt; exact absurd hlt (Nat.not_lt_zero _)
        have hcs := hg k hlt
        obtain ⟨c0, c1, c2, c3, c4, c5⟩ := hcs
        have kp : ∀ q v, w.cell? ⟨g, q, none⟩ = some v → wr.cell? ⟨g, q, none⟩ = some v := fun q v c => (B.cell (p := ⟨g, q, none⟩) (World.block_lt_of_cell? w _ c)).trans c
        replace c0 := kp _ _ c0
        replace c1 := kp _ _ c1
        replace c2 := kp _ _ c2
        replace c3 := kp _ _ c3
        replace c4 := kp _ _ c4
        replace c5 := kp _ _ c5
        have hvf := terms_at HT.out hlt
        have hd := ls_drop hlt
        have hu := HU.out.2
        rw [hd] at hu
        have HIN := Lib.hid HU.out.1
        have k0 : (0 : Int) ≤ (k : Int) := by omega
        have k1 : (k : Int) < (ls.length : Int) := by omega
        clear kp hg hd HU
        generalize ls.getD k lr0 = x at *
        obtain ⟨p1, p2, p3⟩ := vf_q hvf
        have hbad := fun (h1 : atB x t = true) (h2 : stB x L = false) => HNONE.out (by rw [← hu, uO_bad _ h1 h2])
        have hout := fun (h1 : atB x t = false) => (⟨⟨HIN.out.a, HIN.out.f, by have := HIN.out.n; omega⟩, by rw [← hu, uO_out _ h1]⟩ : UInv L (12 + 2 * (k + 1)) ∧ uO t L (ls.drop (k + 1)) = uO t (ledOf hs) ls)
        have hgo := fun (h1 : atB x t = true) (h2 : stB x L = true) => (⟨by have := st_inv HIN.out h2; exact ⟨this.a, this.f, by have := this.n; omega⟩, by rw [← hu, uO_go _ h1 h2]⟩ : UInv (stL x L) (12 + 2 * (k + 1)) ∧ uO t (stL x L) (ls.drop (k + 1)) = uO t (ledOf hs) ls)
        obtain ⟨U, hU⟩ : ∃ y, y = wr.alloc (.cells #[.int .i64 x.ow, .int .i64 x.te, .int .i64 x.n, .int .i64 x.d, .int .i64 x.fr, .int .i64 x.en] 48) := ⟨_, rfl⟩
        have K : Blk U wr.heap.size 48 #[.int .i64 x.ow, .int .i64 x.te, .int .i64 x.n, .int .i64 x.d, .int .i64 x.fr, .int .i64 x.en] := by subst hU; exact Blk.new wr 48 _
        have D : Below wr.heap.size wr U := by subst hU; exact (Below.refl _ _).alloc (Nat.le_refl _) _
        have BU := bel_tr B D
        have HU2 := Lib.hid hU
        have CR := iruns x t U
        have CM := Lib.hid (fun W (hW : Below wr.heap.size wr W) => imove b cp L (rawL L) x.ow x.te x.n x.d (partQ x) W (hs_below hI hW) rfl hn2 HIN.out.a HIN.out.f p3 p1.symm p2.symm hle)
        have HO := Lib.hid hO
        obtain ⟨z0, z1, z2, z3, z4, z5⟩ := cells6 K
        clear hU hu hO hI hvf p1 p2 p3
        cases hat : atB x t with
        | false =>
          have HX := Lib.hid (hout hat)
          rw [hat] at CR
          clear hbad hgo hout hat CM
          go_wp2_with (first | (show wpList _ _ _ ({ dst := some _, op := _, type := _, pos := _, after := _, guard := _ } :: _) _ (World.alloc _ _); rw [← HU2.out]))
          refine CR.mono ?_
          rintro e u3 ⟨rfl, C⟩
          have B3 := bel_tr BU C
          have O3 := Lib.hid (own_next (own_next HO.out D) C)
          clear C BU D z0 z1 z2 z3 z4 z5 K
          go_wp2_with fail
          go_roundw
          case rel => exact ⟨k + 1, L, by omega, by go_num, O3.out, HX, B3⟩
          case measure => simp [intOf]; omega
        | true =>
          rw [hat] at CR
          go_wp2_with (first | (show wpList _ _ _ ({ dst := some _, op := _, type := _, pos := _, after := _, guard := _ } :: _) _ (World.alloc _ _); rw [← HU2.out]))
          refine CR.mono ?_
          rintro e u3 ⟨rfl, C⟩
          have B3 := bel_tr BU C
          have D3 := bel_tr D C
          have K3 := K.next C
          clear C BU D z0 z1 z2 z3 z4 z5 K CR
          obtain ⟨z0, z1, z2, z3, z4, z5⟩ := cells6 K3
          go_wp2_with fail
          refine (CM.out _ D3).mono ?_
          rintro e u4 ⟨v4, rfl, m1, m2, C⟩
          have B4 := bel_tr B3 C
          have hs3 := B3.size
          clear CM D3 z0 z1 z2 z3 z4 z5 K3 C
          change (stB x L = false → _) at m1
          change (stB x L = true → OwnH u4 u3.heap.size v4 (rawL (stL x L))) at m2
          cases hst : stB x L with
          | false =>
            have HN := Lib.hid (hbad hat hst)
            have eb : (frB (shareL L x.ow - partQ x) && frB (shareL (setL L x.ow (shareL L x.ow - partQ x)) x.te + partQ x)) = false := hst
            rw [eb]
            clear hbad hgo hout hat m1 m2 hst eb
            go_wp2_with fail
            go_returns
            exact move_no _ HN.out B4
          | true =>
            have HX := Lib.hid (hgo hat hst)
            have eb : (frB (shareL L x.ow - partQ x) && frB (shareL (setL L x.ow (shareL L x.ow - partQ x)) x.te + partQ x)) = true := hst
            rw [eb]
            have O4 := Lib.hid (own_le (m2 hst) hs3)
            clear hbad hgo hout hat m1 m2 hst eb
            go_wp2_with fail
            go_roundw
            case rel => exact ⟨k + 1, stL x L, by omega, by go_num, O4.out, HX, B4⟩
            case measure => simp [intOf]; omega
      · obtain rfl : k = ls.length := by omega
        have hu := HU.out.2
        rw [List.drop_length, uO_nil] at hu
        obtain ⟨e1, e2⟩ := HSOME.out L hu.symm
        have CV := iVL b cp (rawL L) wr hI (by omega)
        have HO := Lib.hid hO
        have HE2 := Lib.hid e2
        cases hv : vlR (rawL L) with
        | false =>
          rw [hv] at CV e1
          have HN := Lib.hid e1
          clear hu e1 e2 hv hO hI
          go_wp2_with fail
          refine CV.mono ?_
          rintro e u3 ⟨rfl, C⟩
          go_wp2_with fail
          go_returns
          exact move_no _ HN.out (bel_tr B C)
        | true =>
          rw [hv] at CV e1
          have HN := Lib.hid e1
          clear hu e1 e2 hv hO hI
          go_wp2_with fail
          refine CV.mono ?_
          rintro e u3 ⟨rfl, C⟩
          go_wp2_with fail
          go_returns
          exact ⟨.slice b (rawL L).length cp, by rw [HN.out]; rfl, fun c => absurd (HN.out.symm.trans c) (by decide), fun _ => by rw [HE2.out]; exact own_next HO.out C, bel_tr B C⟩
end Go.Proofs.Ythagafkjlecagab
