/-
  CONTRACT of the document's own answer: Escape.
-/
import Derived.Test.YtfjincdlenneaaaPzRMazF
import Derived.Test.YtfjincdlenneaaaPzMazU
namespace Go.Proofs.Ytfjincdlenneaaa
open Go.RowKit Go.Shelf
theorem RowAt.below {w w' : World} {g B : Nat} {t : TypeId} {f : Nat → Value} {n : Nat} (h : RowAt w g t f n) (hb : Below B w w') (hB : g < B) : RowAt w' g t f n := (hb.block g hB).trans h
/-- on a lower side lies no cell that is one move nearer -/
theorem dst_front {W H : Nat} {wall : Nat → Bool} {c t x : Nat} {s : Int} {p : List Int} (hb : Best W H wall c t (s :: p)) (hx : x < s.toNat) : dstI W H wall t (rolF W H wall c x) ≠ (p.length : Int) := fun e => by
  obtain ⟨_, q, h1, h2⟩ := dst_nat e
  exact hb.front hx (esc_some h1) h2
set_option maxRecDepth 100000 in
set_option maxHeartbeats 4000000 in
theorem rEscape_any (W H fr tt : Int) (A : Option Addr) (n cap : Nat) (wall : Nat → Bool) (w : World) (hx : BoosR w w.heap.size A wall n) (hln : n ≤ maxLen) :
    Calls Try.prog 43 #[mazA W H A n cap fr tt] w fun e w' => ∃ A' c', e = .returned (.tuple #[.slice A' (escL W H fr tt n wall).length c', I (escE W H fr tt n wall)]) ∧ IntsR w' w'.heap.size A' (escL W H fr tt n wall) ∧ Below w.heap.size w w' := by
  obtain ⟨w1, hw1, hs1, y0, hb1⟩ := one_box w (.cells #[I W, I H, .slice A n cap, I fr, I tt] 52)
  have f0 : w1.cell? ⟨w.heap.size, 0, none⟩ = some (I W) := cell_of_row w1 _ 0 _ _ _ y0
  have f1 : w1.cell? ⟨w.heap.size, 1, none⟩ = some (I H) := cell_of_row w1 _ 1 _ _ _ y0
  have f2 : w1.cell? ⟨w.heap.size, 2, none⟩ = some (.slice A n cap) := cell_of_row w1 _ 2 _ _ _ y0
  have f3 : w1.cell? ⟨w.heap.size, 3, none⟩ = some (I fr) := cell_of_row w1 _ 3 _ _ _ y0
  have f4 : w1.cell? ⟨w.heap.size, 4, none⟩ = some (I tt) := cell_of_row w1 _ 4 _ _ _ y0
  have s0 : w.heap.size < w1.heap.size := by omega
  have hx1 := boos_call hb1 hx
  have hcall := checkMaze_any W H fr tt A n cap wall w1 hx1 hln
  obtain ⟨E1, hE1⟩ : ∃ E1 : Int, E1 = if mazB W H fr tt n wall then 0 else 30 := ⟨_, rfl⟩
  rw [← hE1] at hcall
  have HE1 := Lib.hid hE1
  have Y0 := Lib.hid y0
  clear y0 hs1 hx hE1
  go_enter Try.func43, Try.ntmps43
  go_upto_region 1 with fail
  rw [← hw1]
  clear hw1
  go_wp2_with fail
  refine hcall.mono ?_
  rintro e w2 ⟨rfl, hb2⟩
  have hx2 := boos_call hb2 hx1
  have hB2 := hb1.trans (hb2.mono hb1.size)
  have Y2 := Lib.hid ((hb2.block _ s0).trans Y0.out)
  have s2 : w.heap.size < w2.heap.size := by have := hb2.size; omega
  clear hcall f0 f1 f2 f3 f4 hb2 hx1 Y0
  cases hok : mazB W H fr tt n wall
  · have e1 : E1 = 30 := by have := HE1.out; rw [hok] at this; simpa using this
    subst e1
    have HE := Lib.hid (show escE W H fr tt n wall = 30 by rw [escE, hok]; rfl)
    have HV := Lib.hid (show escL W H fr tt n wall = [] by rw [escL, escN, hok]; rfl)
    go_wp2
    go_ret2
    exact ⟨none, 0, by rw [HV.out, HE.out]; rfl, by rw [HV.out]; exact IntsR.nil, hB2⟩
  · have e1 : E1 = 0 := by have := HE1.out; rw [hok] at this; simpa using this
    subst e1
    have HOK := Lib.hid hok
    obtain ⟨W', H', f, t, rfl, rfl, rfl, rfl, h1, h2, h3, h4, hn, hn9, hf, ht, hwf, hwt⟩ := maz_nat hok
    have HN := Lib.hid hn
    have r2 := Y2.out
    have p0 : w2.cell? ⟨w.heap.size, 0, none⟩ = some (I W') := cell_of_row w2 _ 0 _ _ _ r2
    have p1 : w2.cell? ⟨w.heap.size, 1, none⟩ = some (I H') := cell_of_row w2 _ 1 _ _ _ r2
    have p2 : w2.cell? ⟨w.heap.size, 2, none⟩ = some (.slice A n cap) := cell_of_row w2 _ 2 _ _ _ r2
    have p3 : w2.cell? ⟨w.heap.size, 3, none⟩ = some (I f) := cell_of_row w2 _ 3 _ _ _ r2
    have p4 : w2.cell? ⟨w.heap.size, 4, none⟩ = some (I t) := cell_of_row w2 _ 4 _ _ _ r2
    have hcall := far_any W' H' t n f A cap wall w2 h1 h2 h4 hn hn9 ht hwt hx2
    have HO := Lib.hid (show escN W' H' f t n wall = escO W' H' wall f t by rw [escN, hok]; rfl)
    clear r2 hok hn
    go_wp2_with fail
    refine hcall.mono ?_
    rintro e w3 ⟨g, rfl, hR, hb3⟩
    have hx3 := boos_call hb3 hx2
    have hB3 := hB2.trans (hb3.mono hB2.size)
    have Y3 := Lib.hid ((hb3.block _ s2).trans Y2.out)
    have s3 : w.heap.size < w3.heap.size := by have := hb3.size; omega
    have hgl := hR.lt
    have o1 : w3.cell? ⟨g, f, none⟩ = some (I (dstI W' H' wall t f)) := hR.at_ hf
    have r3 := Y3.out
    have p3 : w3.cell? ⟨w.heap.size, 3, none⟩ = some (I f) := cell_of_row w3 _ 3 _ _ _ r3
    have HR := Lib.hid hR
    clear hcall p0 p1 p2 p4 hb3 hx2 r3 hR Y2
    cases hes : escO W' H' wall f t with
    | none =>
      have hd : dstI W' H' wall t f = -1 := dst_none hes
      rw [hd] at o1
      have HL := Lib.hid (show escL W' H' f t n wall = [] by rw [escL, HO.out, hes]; rfl)
      have HE := Lib.hid (show escE W' H' f t n wall = 3 by rw [escE, HOK.out, HO.out, hes]; rfl)
      clear hd hes
      go_wp2
      go_ret2
      exact ⟨none, 0, by rw [HL.out, HE.out]; rfl, by rw [HL.out]; exact IntsR.nil, hB3⟩
    | some P =>
      have hd : dstI W' H' wall t f = (P.length : Int) := dst_some hwf hes
      rw [hd] at o1
      have HL := Lib.hid (show escL W' H' f t n wall = P by rw [escL, HO.out, hes]; rfl)
      have HE := Lib.hid (show escE W' H' f t n wall = 0 by rw [escE, HOK.out, HO.out, hes]; rfl)
      have HB := Lib.hid (esc_some hes)
      have hP64 : P.length ≤ 64 := by
        have := (esc_some hes).few h1 (by rw [← HN.out]; exact hf) hwf
        rw [← HN.out] at this
        omega
      have hg0 : ¬ (P.length : Int) < 0 := by omega
      have HWF := Lib.hid hwf
      clear hd hes hwf hwt
      go_wp2_with fail
      go_loopg [6, 7] P.length (fun gk v x wr => ∃ (o p : List Int) (c : Nat), p.length = gk ∧ Hid (P = o ++ p) ∧ o.length + p.length = P.length ∧ x = I c ∧ c < n ∧ Hid (wall c = false) ∧ Hid (Best W' H' wall c t p) ∧ wr.ownsRow w3.heap.size 3 1 v o.length (o.map I) ∧ Below w3.heap.size w3 wr)
      case atStart => exact ⟨[], P, f, rfl, Lib.hid rfl, by simp, rfl, hf, HWF, HB, World.ownsRow_nil _ _ _ _, Below.refl _ _⟩
      case round =>
        obtain ⟨o, p, c, hgk, HP, hop, rfl, hc, HW, HBc, hown, hB⟩ := hrel
        obtain ⟨v, hv⟩ : ∃ v : Value, v = u6 := ⟨_, rfl⟩
        subst hv
        obtain ⟨wx, hwx⟩ : ∃ wx : World, wx = wr := ⟨_, rfl⟩
        rw [← hwx] at hown hB
        rw [← hwx]
        clear hwx p3 o1
        have hRx := HR.out.below hB hgl
        have hdc : dstI W' H' wall t c = (p.length : Int) := dst_some HW.out (esc_best HBc.out)
        have o1 : wx.cell? ⟨g, c, none⟩ = some (I (p.length : Int)) := by rw [← hdc]; exact hRx.at_ hc
        have HD := Lib.hid hdc
        clear hdc
        cases p with
        | nil =>
          have HPO := Lib.hid (show P = o by rw [HP.out, List.append_nil])
          obtain ⟨A9, c9, e9, hi9, -⟩ := own_ints hown
          subst e9
          replace o1 : wx.cell? ⟨g, c, none⟩ = some (I 0) := o1
          clear hown HP HD
          go_wp2
          go_ret2
          refine ⟨A9, c9, ?_, by rw [HL.out, HPO.out]; exact hi9, hB3.trans (hB.mono hB3.size)⟩
          rw [HL.out, HE.out, HPO.out]; rfl
        | cons s p' =>
          have hms := (Mv.cons.1 HBc.out.1).1
          obtain ⟨sn, hsn⟩ : ∃ sn : Nat, s = sn := ⟨s.toNat, by omega⟩
          subst hsn
          have hrow := hown.lt
          have r4 := (hB.block _ s3).trans Y3.out
          have p0 : wx.cell? ⟨w.heap.size, 0, none⟩ = some (I W') := cell_of_row wx _ 0 _ _ _ r4
          have p1 : wx.cell? ⟨w.heap.size, 1, none⟩ = some (I H') := cell_of_row wx _ 1 _ _ _ r4
          have p2 : wx.cell? ⟨w.heap.size, 2, none⟩ = some (.slice A n cap) := cell_of_row wx _ 2 _ _ _ r4
          have p3 : wx.cell? ⟨w.heap.size, 3, none⟩ = some (I f) := cell_of_row wx _ 3 _ _ _ r4
          have p4 : wx.cell? ⟨w.heap.size, 4, none⟩ = some (I t) := cell_of_row wx _ 4 _ _ _ r4
          clear r4
          obtain ⟨k, hk⟩ : ∃ k : Nat, k = p'.length := ⟨_, rfl⟩
          replace o1 : wx.cell? ⟨g, c, none⟩ = some (I ((k : Int) + 1)) := by rw [o1, hk]; rfl
          have hop' : o.length + (k + 1) = P.length := by rw [hk, ← hop]; rfl
          have hgk' : k + 1 = gk := by rw [hk, ← hgk]; rfl
          have hgp : (0 : Int) < (k : Int) + 1 := by omega
          have HKP := Lib.hid hk
          have HOWN := Lib.hid hown
          have hcN : c < W' * H' := by rw [← HN.out]; exact hc
          have hsn3 : sn ≤ 3 := by omega
          have hgx : g < wx.heap.size := hRx.lt
          have HRX := Lib.hid hRx
          have YX := Lib.hid ((hB.block _ s3).trans Y3.out)
          have sx : w.heap.size < wx.heap.size := by have := hB.size; omega
          have hxx := boos_call hB hx3
          clear hk hop hgk hms hown hRx HD
          go_wp2_with fail
          go_loopw [8] (fun i wr => ∃ x : Nat, x ≤ sn ∧ i = I x ∧ Below wx.heap.size wx wr) (fun i _ => sn - (intOf i).toNat)
          case atStart => exact ⟨0, Nat.zero_le _, rfl, Below.refl _ _⟩
          case round =>
            obtain ⟨x, hxs, rfl, hBy⟩ := hrel
            obtain ⟨wy, hwy⟩ : ∃ wy : World, wy = wr := ⟨_, rfl⟩
            rw [← hwy] at hBy
            rw [← hwy]
            clear hwy p0 p1 p2 p3 p4 o1
            have r5 := (hBy.block _ sx).trans YX.out
            have p0 : wy.cell? ⟨w.heap.size, 0, none⟩ = some (I W') := cell_of_row wy _ 0 _ _ _ r5
            have p1 : wy.cell? ⟨w.heap.size, 1, none⟩ = some (I H') := cell_of_row wy _ 1 _ _ _ r5
            have p2 : wy.cell? ⟨w.heap.size, 2, none⟩ = some (.slice A n cap) := cell_of_row wy _ 2 _ _ _ r5
            have p3 : wy.cell? ⟨w.heap.size, 3, none⟩ = some (I f) := cell_of_row wy _ 3 _ _ _ r5
            have p4 : wy.cell? ⟨w.heap.size, 4, none⟩ = some (I t) := cell_of_row wy _ 4 _ _ _ r5
            have hxy := boos_call hBy hxx
            have hin := rol_in h1 (show x ≤ 3 by omega) hcN HW.out
            obtain ⟨y, hy⟩ : ∃ y, y = rolF W' H' wall c x := ⟨_, rfl⟩
            rw [← hy] at hin
            have hyn : y < n := by rw [HN.out]; exact hin.1
            have C1 : ∀ V, KeptW wy V → Calls Try.prog 109 #[mazA W' H' A n cap f t, I c, I x] V fun e w' => e = .returned (I y) ∧ Below V.heap.size V w' := fun V hV => by
              rw [hy]
              exact rolls_any W' H' c x n f t A cap wall V h1 h2 h4 HN.out hn9 hc (by omega) (boos_call hV.1 hxy)
            have hRy := HRX.out.below hBy hgx
            have sy : w.heap.size < wy.heap.size := by have := hBy.size; omega
            have hgy : g < wy.heap.size := by have := hBy.size; omega
            obtain ⟨dy, hdy⟩ : ∃ dy, dy = dstI W' H' wall t y := ⟨_, rfl⟩
            have oy : wy.cell? ⟨g, y, none⟩ = some (I dy) := by rw [hdy]; exact hRy.at_ hyn
            have oc : wy.cell? ⟨g, c, none⟩ = some (I ((k : Int) + 1)) := by
              have hdc : dstI W' H' wall t c = ((k : Int) + 1) := by
                rw [dst_some HW.out (esc_best HBc.out), HKP.out]; rfl
              rw [← hdc]; exact hRy.at_ hc
            have HY := Lib.hid hy
            have HIN := Lib.hid hin
            have HDY := Lib.hid hdy
            have ew : IntKind.i64.wrap ((k : Int) + 1 - 1) = (k : Int) := by rw [show (k : Int) + 1 - 1 = k by omega]; exact (IntWalk.i64_left _).trans (IntWalk.wrap64_in _ ⟨by omega, by omega⟩)
            have ew2 : IntKind.i64.wrap (k : Int) = (k : Int) := (IntWalk.i64_left _).trans (IntWalk.wrap64_in _ ⟨by omega, by omega⟩)
            clear r5 hy hin hdy hRy
            go_upto_region 11 with fail
            go_cut [41] from 29 to 41 (fun s41 wz => s41 = .bool (dy != (k : Int)) ∧ KeptW wy wz)
            case first =>
              go_region_held3 (fun w' => Below wy.heap.size wy w' ∧ (∀ a : Addr, a.block < wy.heap.size → w'.cell? a = wy.cell? a))
                (first | exact keptW_drew _ | exact keptW_call (by assumption) hb | assumption)
                ((go_at_call 109; go_must (refine (C1 _ (by assumption)).mono ?_); rintro e w' ⟨rfl, hb⟩))
              all_goals
                go_wp2_with fail
                go_meet
                exact ⟨rfl, by assumption⟩
            case rest =>
              obtain ⟨rfl, hkk⟩ := hcut
              have hBc := hBy.trans (hkk.1.mono hBy.size)
              clear hkk p0 p1 p2 p3 p4 oy oc C1 hxy ew ew2 hBy sy hgy
              by_cases hxe : x = sn
              · subst hxe
                have hdk : dy = (k : Int) := by
                  rw [HDY.out, HY.out, HKP.out]
                  have hbt := HBc.out.tail
                  have hi2 := rol_in h1 (show x ≤ 3 by omega) hcN HW.out
                  exact dst_some hi2.2 (esc_best hbt)
                have hb0 : (dy != (k : Int)) = false := by rw [hdk]; simp
                rw [hb0]
                have hB5 : Below w3.heap.size w3 wc := hB.trans (hBc.mono hB.size)
                have hownc := own_call HOWN.out hBc
                have hrowc := hownc.lt
                obtain ⟨i0, hi, hz0, hz1, hz2⟩ := info_parts info_int
                clear hdk hb0 HDY hBc hrow
                go_wp2_with (at_builtin; refine wpList_append_own _ rfl _ _ 29 rfl w3.heap.size 3 i0 (.int .i64 0) 1 8 Try.underlying29 hi hz0 hz1 hz2 rfl (by decide) v _ _ rfl (hownc.alloc _) ⟨wc.heap.size, 0, none⟩ 1 1 [I x] rfl rfl ?c1 ?c2 ?c3 ?c4 ?c5 ?_)
                case c1 =>
                  intro j u hj
                  match j, hj with
                  | 0, hj => simp at hj; subst hj; simp [Addr.add]
                case c2 => intro u hu; simp at hu; subst hu; rfl
                case c3 => unfold maxLen; omega
                case c4 => omega
                case c5 => have := hB5.size; simp; omega
                intro v' w6 hown6 hgrow _
                have hB6 : Below w3.heap.size w3 w6 := (hB5.alloc hB5.size _).grown hgrow (by have := hB5.size; simp; omega) (fun j hj => (hrowc j hj).1)
                have r6 := (hB6.block _ s3).trans Y3.out
                have p0 : w6.cell? ⟨w.heap.size, 0, none⟩ = some (I W') := cell_of_row w6 _ 0 _ _ _ r6
                have p1 : w6.cell? ⟨w.heap.size, 1, none⟩ = some (I H') := cell_of_row w6 _ 1 _ _ _ r6
                have p2 : w6.cell? ⟨w.heap.size, 2, none⟩ = some (.slice A n cap) := cell_of_row w6 _ 2 _ _ _ r6
                have p3 : w6.cell? ⟨w.heap.size, 3, none⟩ = some (I f) := cell_of_row w6 _ 3 _ _ _ r6
                have p4 : w6.cell? ⟨w.heap.size, 4, none⟩ = some (I t) := cell_of_row w6 _ 4 _ _ _ r6
                have hcall := rolls_any W' H' c x n f t A cap wall w6 h1 h2 h4 HN.out hn9 hc (by omega) (boos_call hB6 hx3)
                rw [← HY.out] at hcall
                have hown6' : w6.ownsRow w3.heap.size 3 1 v' (o ++ [(x : Int)]).length ((o ++ [(x : Int)]).map I) := by
                  rw [List.length_append, List.map_append]; exact hown6
                have HO6 := Lib.hid hown6'
                clear hown6 hown6' hgrow hownc hrowc r6 hB5
                go_wp2_with fail
                refine hcall.mono ?_
                rintro e w7 ⟨rfl, hb7⟩
                clear hcall p0 p1 p2 p3 p4
                have hB7 := hB6.trans (hb7.mono hB6.size)
                have HO7 := Lib.hid (own_call HO6.out hb7)
                have HT := Lib.hid HBc.out.tail
                go_wp2_with fail
                go_roundg k
                case measure => omega
                case rel => exact ⟨o ++ [(x : Int)], p', y, HKP.out.symm, Lib.hid (by rw [HP.out]; simp), by have := HKP.out; simp; omega, rfl, hyn, Lib.hid HIN.out.2, Lib.hid (by rw [HY.out]; exact HT.out), HO7.out, hB7⟩
              · have hdk : dy ≠ (k : Int) := by
                  rw [HDY.out, HY.out, HKP.out]
                  exact dst_front HBc.out (by show x < (sn : Int).toNat; omega)
                have hb0 : (dy != (k : Int)) = true := by simpa using hdk
                rw [hb0]
                clear hdk hb0 HDY
                go_wp2_with fail
                go_roundw
                case rel => exact ⟨x + 1, by omega, by go_num, hBc⟩
                case measure => simp [intOf]; omega
end Go.Proofs.Ytfjincdlenneaaa
