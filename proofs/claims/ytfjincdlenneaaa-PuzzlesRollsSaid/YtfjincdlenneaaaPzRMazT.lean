/-
  CONTRACT of the document's own answer: Traps.
-/
import Derived.Test.YtfjincdlenneaaaPzRMazE
import Derived.Test.YtfjincdlenneaaaPzMazN
namespace Go.Proofs.Ytfjincdlenneaaa
open Go.RowKit Go.Shelf
/-- a row of Booleans -/
def bolV (S : Nat → Bool) : Nat → Value := fun x => .bool (S x)
theorem bolV_set {S : Nat → Bool} {w : World} {g n y : Nat} (h : RowAt w g 4 (bolV S) n) : RowAt (w.setCell ⟨g, y, none⟩ (.bool true)) g 4 (bolV (updB S y)) n := by
  refine (h.set y (.bool true)).congr fun c _ => ?_
  show (if c = y then Value.bool true else .bool (S c)) = .bool (updB S y c)
  rw [updB]
  by_cases h1 : c = y
  · rw [if_pos h1, if_pos h1]
  · rw [if_neg h1, if_neg h1]
set_option maxRecDepth 100000 in
set_option maxHeartbeats 4000000 in
theorem rTraps_any (W H fr tt : Int) (A : Option Addr) (n cap : Nat) (wall : Nat → Bool) (w : World) (hx : BoosR w w.heap.size A wall n) (hln : n ≤ maxLen) :
    Calls Try.prog 45 #[mazA W H A n cap fr tt] w fun e w' => ∃ A' c', e = .returned (.tuple #[.slice A' (trpL W H fr tt n wall).length c', I (trpE W H fr tt n wall)]) ∧ IntsR w' w'.heap.size A' (trpL W H fr tt n wall) ∧ Below w.heap.size w w' := by
  obtain ⟨w1, hw1, hs1, y0, hb1⟩ := one_box w (.cells #[I W, I H, .slice A n cap, I fr, I tt] 52)
  have f0 : w1.cell? ⟨w.heap.size, 0, none⟩ = some (I W) := cell_of_row w1 _ 0 _ _ _ y0
  have f1 : w1.cell? ⟨w.heap.size, 1, none⟩ = some (I H) := cell_of_row w1 _ 1 _ _ _ y0
  have f2 : w1.cell? ⟨w.heap.size, 2, none⟩ = some (.slice A n cap) := cell_of_row w1 _ 2 _ _ _ y0
  have f3 : w1.cell? ⟨w.heap.size, 3, none⟩ = some (I fr) := cell_of_row w1 _ 3 _ _ _ y0
  have f4 : w1.cell? ⟨w.heap.size, 4, none⟩ = some (I tt) := cell_of_row w1 _ 4 _ _ _ y0
  have s0 : w.heap.size < w1.heap.size := by omega
  have hx1 := boos_call hb1 hx
  have hcall := checkMaze_any W H fr tt A n cap wall w1 hx1 hln
  obtain ⟨E1, hE1⟩ : ∃ E1 : Int, E1 = if mazB W H fr tt n wall then 0 else 30 := ⟨_, rfl⟩
  rw [← hE1] at hcall
  have HE1 := Lib.hid hE1
  have Y0 := Lib.hid y0
  clear y0 hs1 hx hE1
  go_enter Try.func45, Try.ntmps45
  go_upto_region 1 with fail
  rw [← hw1]
  clear hw1
  go_wp2_with fail
  refine hcall.mono ?_
  rintro e w2 ⟨rfl, hb2⟩
  have hx2 := boos_call hb2 hx1
  have hB2 := hb1.trans (hb2.mono hb1.size)
  have Y2 := Lib.hid ((hb2.block _ s0).trans Y0.out)
  have s2 : w.heap.size < w2.heap.size := by have := hb2.size; omega
  clear hcall f0 f1 f2 f3 f4 hb2 hx1 Y0
  cases hok : mazB W H fr tt n wall
  · have e1 : E1 = 30 := by have := HE1.out; rw [hok] at this; simpa using this
    subst e1
    have HE := Lib.hid (show trpE W H fr tt n wall = 30 by rw [trpE, hok]; rfl)
    have HV := Lib.hid (show trpL W H fr tt n wall = [] by rw [trpL, hok]; rfl)
    go_wp2
    go_ret2
    exact ⟨none, 0, by rw [HV.out, HE.out]; rfl, by rw [HV.out]; exact IntsR.nil, hB2⟩
  · have e1 : E1 = 0 := by have := HE1.out; rw [hok] at this; simpa using this
    subst e1
    obtain ⟨W', H', f, t, rfl, rfl, rfl, rfl, h1, h2, h3, h4, hn, hn9, hf, ht, hwf, hwt⟩ := maz_nat hok
    have HN := Lib.hid hn
    have r2 := Y2.out
    have p0 : w2.cell? ⟨w.heap.size, 0, none⟩ = some (I W') := cell_of_row w2 _ 0 _ _ _ r2
    have p1 : w2.cell? ⟨w.heap.size, 1, none⟩ = some (I H') := cell_of_row w2 _ 1 _ _ _ r2
    have p2 : w2.cell? ⟨w.heap.size, 2, none⟩ = some (.slice A n cap) := cell_of_row w2 _ 2 _ _ _ r2
    have p3 : w2.cell? ⟨w.heap.size, 3, none⟩ = some (I f) := cell_of_row w2 _ 3 _ _ _ r2
    have p4 : w2.cell? ⟨w.heap.size, 4, none⟩ = some (I t) := cell_of_row w2 _ 4 _ _ _ r2
    have hcall := far_any W' H' t n f A cap wall w2 h1 h2 h4 hn hn9 ht hwt hx2
    have HE := Lib.hid (show trpE W' H' f t n wall = 0 by rw [trpE, hok]; rfl)
    have HL := Lib.hid (show trpL W' H' f t n wall = numsG (trpB W' H' wall f t) n by rw [trpL, hok]; rfl)
    have HWF := Lib.hid hwf
    have hmb := run_make_row' (P := Try.prog) 50 4 (.bool false) 1 Try.underlying50 info_bool rfl .i64 .i64 n (by omega) (by omega)
    simp only [madeF] at hmb
    clear r2 hok hn hwf hwt
    go_wp2_with fail
    refine hcall.mono ?_
    rintro e w3 ⟨g, rfl, hR, hb3⟩
    have hx3 := boos_call hb3 hx2
    have hB3 := hB2.trans (hb3.mono hB2.size)
    have Y3 := Lib.hid ((hb3.block _ s2).trans Y2.out)
    have s3 : w.heap.size < w3.heap.size := by have := hb3.size; omega
    have hgl := hR.lt
    have HR := Lib.hid hR
    clear hcall p0 p1 p2 p3 p4 hb3 hx2 hR Y2
    go_upto_region 6 with fail
    obtain ⟨w4, hw4, hs4, r4, hb4⟩ := one_box w3 (.cells (rowF (fun _ => .bool false) n) 4)
    rw [← hw4]
    obtain ⟨g2, hg2⟩ : ∃ g2, g2 = w3.heap.size := ⟨_, rfl⟩
    have hx4 := boos_call hb4 hx3
    have hB4 := hB3.trans (hb4.mono hB3.size)
    have y4 := (hb4.block _ s3).trans Y3.out
    have p3 : w4.cell? ⟨w.heap.size, 3, none⟩ = some (I f) := cell_of_row w4 _ 3 _ _ _ y4
    have HR4 := Lib.hid (HR.out.below hb4 hgl)
    rw [← hg2] at hs4 r4 hgl
    rw [← hg2]
    have sw : w.heap.size < g2 := by omega
    have hL0 : RowAt w4 g2 4 (bolV (fun _ => false)) n := r4
    have o2 := hL0.free f
    have o1 := hL0.at_ hf
    have hL1 := bolV_set (y := f) hL0
    have hK1 : KB g2 w4 (w4.setCell ⟨g2, f, none⟩ (.bool true)) := KB.setCell _ _
    have Y4 := Lib.hid y4
    have q4 : g2 < w4.heap.size := by omega
    have hx4g : BoosR w4 g2 A wall n := by
      have := hx3.below hb4 (Nat.le_refl _)
      rw [hg2]; exact this
    have HL1 := Lib.hid hL1
    clear hw4 r4 hmb hs4 hx3 hx4 y4 hL0 hL1 hb4 HR hg2
    go_upto_region 7 with fail
    obtain ⟨w5, hw5⟩ : ∃ w5, w5 = w4.setCell ⟨g2, f, none⟩ (.bool true) := ⟨_, rfl⟩
    rw [← hw5] at HL1 hK1
    rw [← hw5]
    have HS0 := Lib.hid (Lie.start (W := W') (H := H') (wall := wall) (fr := f))
    clear hw5 o1 o2 p3
    go_wp2_with fail
    go_loopw [7] (fun i wr => ∃ (S : Nat) (L : Nat → Bool), S ≤ n ∧ i = .int .i64 S ∧ Hid (RowAt wr g2 4 (bolV L) n) ∧ KB g2 w4 wr ∧ Hid (Lie W' H' wall f S 0 0 L)) (fun i _ => n - (intOf i).toNat)
    case atStart => exact ⟨0, _, Nat.zero_le _, rfl, HL1, hK1, HS0⟩
    case round =>
      obtain ⟨S, L, hS, rfl, HRL, hKS, HLS⟩ := hrel
      obtain ⟨wo, hwo⟩ : ∃ wo : World, wo = wr := ⟨_, rfl⟩
      rw [← hwo] at HRL hKS
      rw [← hwo]
      clear hwo HL1 hK1 HS0
      by_cases hlS : S < n
      · go_wp2_with fail
        go_loopw [8] (fun i wr => ∃ (j : Nat) (L : Nat → Bool), j ≤ n ∧ i = .int .i64 j ∧ Hid (RowAt wr g2 4 (bolV L) n) ∧ KB g2 w4 wr ∧ Hid (Lie W' H' wall f S j 0 L)) (fun i _ => n - (intOf i).toNat)
        case atStart => exact ⟨0, _, Nat.zero_le _, rfl, HRL, hKS, HLS⟩
        case round =>
          obtain ⟨j, L, hj, rfl, HRJ, hKJ, HLJ⟩ := hrel
          obtain ⟨wp, hwp⟩ : ∃ wp : World, wp = wr := ⟨_, rfl⟩
          rw [← hwp] at HRJ hKJ
          rw [← hwp]
          clear hwp
          by_cases hlj : j < n
          · go_wp2_with fail
            go_loopw [9] (fun i wr => ∃ (x : Nat) (L : Nat → Bool), x ≤ 4 ∧ i = .int .i64 x ∧ Hid (RowAt wr g2 4 (bolV L) n) ∧ KB g2 w4 wr ∧ Hid (Lie W' H' wall f S j x L)) (fun i _ => 4 - (intOf i).toNat)
            case atStart => exact ⟨0, _, by omega, rfl, HRJ, hKJ, HLJ⟩
            case round =>
              obtain ⟨x, L, hx4', rfl, HRX, hK, HLX⟩ := hrel
              obtain ⟨wx, hwx⟩ : ∃ wx : World, wx = wr := ⟨_, rfl⟩
              rw [← hwx] at HRX hK
              rw [← hwx]
              clear hwx
              have y5 := (hK.block w.heap.size (by omega) (by omega)).trans Y4.out
              have b0 : wx.cell? ⟨w.heap.size, 0, none⟩ = some (I W') := cell_of_row wx _ 0 _ _ _ y5
              have b1 : wx.cell? ⟨w.heap.size, 1, none⟩ = some (I H') := cell_of_row wx _ 1 _ _ _ y5
              have b2 : wx.cell? ⟨w.heap.size, 2, none⟩ = some (.slice A n cap) := cell_of_row wx _ 2 _ _ _ y5
              have b3 : wx.cell? ⟨w.heap.size, 3, none⟩ = some (I f) := cell_of_row wx _ 3 _ _ _ y5
              have b4 : wx.cell? ⟨w.heap.size, 4, none⟩ = some (I t) := cell_of_row wx _ 4 _ _ _ y5
              have o1 : wx.cell? ⟨g2, j, none⟩ = some (.bool (L j)) := HRX.out.at_ hlj
              clear y5
              cases hLj : L j
              · rw [hLj] at o1
                have HNX := Lib.hid (HLX.out.dry hLj)
                clear hLj HLX
                by_cases hx3 : x < 4
                · have g1 : decide ((x : Int) < 4) = true := decide_eq_true (by omega)
                  go_wp2_with fail
                  go_roundw
                  case rel => exact ⟨j + 1, L, by omega, by go_num, HRX, hK, HNX⟩
                  case measure => simp [intOf]; omega
                · obtain rfl : x = 4 := by omega
                  go_wp2_with fail
                  go_roundw
                  case rel => exact ⟨j + 1, L, by omega, by go_num, HRX, hK, HNX⟩
                  case measure => simp [intOf]; omega
              · rw [hLj] at o1
                by_cases hx3 : x < 4
                · have g1 : decide ((x : Int) < 4) = true := decide_eq_true (by omega)
                  have hwj : wall j = false := by
                    obtain ⟨q, hq1, hq2⟩ := HLX.out.from_ j hLj
                    have := (wlk_in h1 (by rw [← HN.out]; exact hf) HWF.out q hq1).2
                    rwa [hq2] at this
                  have hin := rol_in h1 (show x ≤ 3 by omega) (show j < W' * H' by rw [← HN.out]; exact hlj) hwj
                  have hxx := (hx4g.below (hK.below (B := g2) (Nat.le_refl _) (by omega)) (Nat.le_refl _)).more (show g2 ≤ wx.heap.size by have := hK.size; omega)
                  have hcall := rolls_any W' H' j x n f t A cap wall wx h1 h2 h4 HN.out hn9 hlj (by omega) hxx
                  have HNX := Lib.hid (HLX.out.roll hLj (show x ≤ 3 by omega))
                  obtain ⟨y, hy⟩ : ∃ y, y = rolF W' H' wall j x := ⟨_, rfl⟩
                  rw [← hy] at hcall hin HNX
                  have hyn : y < n := by rw [HN.out]; exact hin.1
                  clear hLj HLX hwj hin hxx hy
                  go_wp2_with fail
                  refine hcall.mono ?_
                  rintro e w6 ⟨rfl, hb6⟩
                  have hK6 := hK.trans (KB.of_below hb6)
                  have hR6 : RowAt w6 g2 4 (bolV L) n := (hb6.block g2 HRX.out.lt).trans HRX.out
                  have o5 := hR6.at_ hyn
                  have o7 : w6.frozen? ⟨g2, y, none⟩ = false := hR6.free y
                  have HR7 := Lib.hid (bolV_set (y := y) hR6)
                  have hK7 := hK6.trans (KB.setCell (b := g2) (i := y) w6 (.bool true))
                  clear hcall hb6 b0 b1 b2 b3 b4 o1 hK HRX hR6 hK6
                  go_wp2_with fail
                  go_roundw
                  case rel => exact ⟨x + 1, _, by omega, by go_num, HR7, hK7, HNX⟩
                  case measure => simp [intOf]; omega
                · obtain rfl : x = 4 := by omega
                  have HNX := Lib.hid HLX.out.next
                  clear hLj HLX
                  go_wp2_with fail
                  go_roundw
                  case rel => exact ⟨j + 1, L, by omega, by go_num, HRX, hK, HNX⟩
                  case measure => simp [intOf]; omega
          · obtain rfl : j = n := by omega
            have HNX := Lib.hid (Lie.round (by have := HLJ.out; rwa [HN.out] at this) (fun q hq => (wlk_in h1 (by rw [← HN.out]; exact hf) HWF.out q hq).1))
            clear HLJ HLS HRL
            go_wp2_with fail
            go_roundw
            case rel => exact ⟨S + 1, L, by omega, by go_num, HRJ, hKJ, HNX⟩
            case measure => simp [intOf]; omega
      · obtain rfl : S = n := by omega
        have HAL := Lib.hid (Lie.all h1 (by rw [← HN.out]; exact hf) HWF.out (by have := HLS.out; rwa [HN.out] at this))
        have hBo : Below w.heap.size w wo := hB4.trans (hKS.below (by omega) (by omega))
        have HRD := Lib.hid (show RowAt wo g 3 (intV (dstI W' H' wall t)) S from (hKS.block g (by omega) (by omega)).trans HR4.out)
        have hgo : g < wo.heap.size := by have := hKS.size; omega
        have hg2o : g2 < wo.heap.size := by have := hKS.size; omega
        clear HLS Y4 HR4 hx4g
        go_wp2_with fail
        go_loopw [10, 11] (fun v i wr => ∃ c : Nat, c ≤ S ∧ i = .int .i64 c ∧ wr.ownsRow wo.heap.size 3 1 v (numsG (trpB W' H' wall f t) c).length ((numsG (trpB W' H' wall f t) c).map I) ∧ Below wo.heap.size wo wr) (fun _ i _ => S - (intOf i).toNat)
        case atStart => exact ⟨0, Nat.zero_le _, rfl, World.ownsRow_nil _ _ _ _, Below.refl _ _⟩
        case round =>
          obtain ⟨c, hc, rfl, hown, hB⟩ := hrel
          obtain ⟨v, hv⟩ : ∃ v : Value, v = u10 := ⟨_, rfl⟩
          subst hv
          obtain ⟨wx, hwx⟩ : ∃ wx : World, wx = wr := ⟨_, rfl⟩
          rw [← hwx] at hown hB
          rw [← hwx]
          clear hwx
          by_cases hlc : c < S
          · have o1 : wx.cell? ⟨g2, c, none⟩ = some (.bool (L c)) := (HRL.out.below hB hg2o).at_ hlc
            have o2 : wx.cell? ⟨g, c, none⟩ = some (I (dstI W' H' wall t c)) := (HRD.out.below hB hgo).at_ hlc
            have hLc := HAL.out c
            have hhl := numsG_len (trpB W' H' wall f t) c
            have hrow := hown.lt
            cases hl : L c
            · rw [hl] at o1 hLc
              have HQ := Lib.hid (numsG_no (T := trpB W' H' wall f t) (m := c) (by rw [trpB, ← hLc]; rfl))
              clear hLc hl o2
              go_wp2_with fail
              go_roundw
              case rel => exact ⟨c + 1, by omega, by go_num, by rw [HQ.out]; exact hown, hB⟩
              case measure => simp [intOf]; omega
            · rw [hl] at o1 hLc
              obtain ⟨P, hP⟩ := Option.isSome_iff_exists.1 hLc.symm
              have hin := esc_in h1 (by rw [← HN.out]; exact hf) HWF.out hP
              cases he : escO W' H' wall c t with
              | some p =>
                have hd : dstI W' H' wall t c = (p.length : Int) := dst_some hin.2 he
                rw [hd] at o2
                have hge : decide ((p.length : Int) < 0) = false := decide_eq_false (by omega)
                have hge2 : ¬ (p.length : Int) < 0 := by omega
                have HQ := Lib.hid (numsG_no (T := trpB W' H' wall f t) (m := c) (by rw [trpB, he]; simp))
                clear hLc hl hd he hin hP
                go_wp2_with fail
                go_roundw
                case rel => exact ⟨c + 1, by omega, by go_num, by rw [HQ.out]; exact hown, hB⟩
                case measure => simp [intOf]; omega
              | none =>
                have hd : dstI W' H' wall t c = -1 := dst_none he
                rw [hd] at o2
                have hT : trpB W' H' wall f t c = true := by rw [trpB, ← hLc, he]; rfl
                have HQ := Lib.hid (numsG_snoc hT)
                have HLL := Lib.hid (show (numsG (trpB W' H' wall f t) (c + 1)).length = (numsG (trpB W' H' wall f t) c).length + 1 by rw [numsG_yes hT]; simp)
                obtain ⟨i0, hi, hz0, hz1, hz2⟩ := info_parts info_int
                clear hLc hl hd he hin hP hT
                go_wp2_with (at_builtin; refine wpList_append_own _ rfl _ _ 29 rfl wo.heap.size 3 i0 (.int .i64 0) 1 8 Try.underlying29 hi hz0 hz1 hz2 rfl (by decide) v _ _ rfl (hown.alloc _) ⟨wx.heap.size, 0, none⟩ 1 1 [I c] rfl rfl ?c1 ?c2 ?c3 ?c4 ?c5 ?_)
                case c1 =>
                  intro j u hj
                  match j, hj with
                  | 0, hj => simp at hj; subst hj; simp [Addr.add]
                case c2 => intro u hu; simp at hu; subst hu; rfl
                case c3 => unfold maxLen; omega
                case c4 => omega
                case c5 => have := hB.size; simp; omega
                intro v' w9 hown' hgrow _
                have hown9 := hown'
                rw [HQ.out, ← HLL.out] at hown9
                have hB9 : Below wo.heap.size wo w9 := (hB.alloc hB.size _).grown hgrow (by have := hB.size; simp; omega) (fun j hj => (hrow j hj).1)
                clear hown' hgrow hown hrow o1 o2
                go_wp2_with fail
                go_roundw
                case rel => exact ⟨c + 1, by omega, by go_num, hown9, hB9⟩
                case measure => simp [intOf]; omega
          · obtain rfl : c = S := by omega
            obtain ⟨A9, c9, e9, hi9, -⟩ := own_ints hown
            subst e9
            clear hown
            go_wp2_with fail
            go_ret2
            refine ⟨A9, c9, ?_, by rw [HL.out]; exact hi9, hBo.trans (hB.mono hBo.size)⟩
            rw [HL.out, HE.out]; rfl
end Go.Proofs.Ytfjincdlenneaaa
