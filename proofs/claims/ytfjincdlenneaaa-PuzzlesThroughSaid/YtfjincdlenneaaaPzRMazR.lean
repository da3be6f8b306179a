/-
  CONTRACT of the document's own answer: Roll.
-/
import Derived.Test.YtfjincdlenneaaaPzRMazB
import Derived.Test.YtfjincdlenneaaaPzMazT
namespace Go.Proofs.Ytfjincdlenneaaa
open Go.RowKit Go.Shelf
/-- what stays in a region: all that was there, at whatever address -/
def KeptW (w1 w' : World) : Prop := Below w1.heap.size w1 w' ∧ (∀ a : Addr, a.block < w1.heap.size → w'.cell? a = w1.cell? a)
theorem keptW_of {w1 w' : World} (h : Below w1.heap.size w1 w') : KeptW w1 w' := ⟨h, fun _ hb => h.cell hb⟩
theorem keptW_below {w1 w' : World} (h : KeptW w1 w') : Below w1.heap.size w1 w' := h.1
theorem keptW_drew (w1 : World) : KeptW w1 w1.drew := keptW_of (Below.refl _ _).drew
theorem keptW_call {w1 w' w2 : World} (h : KeptW w1 w') (hb : Below w'.heap.size w' w2) : KeptW w1 w2 := keptW_of (h.1.trans (hb.mono h.1.size))
set_option maxRecDepth 100000 in
set_option maxHeartbeats 4000000 in
theorem rRoll_any (W H fr tt : Int) (A A2 : Option Addr) (n cap c2 : Nat) (wall : Nat → Bool) (ms : List Int) (w : World) (hx : BoosR w w.heap.size A wall n) (hln : n ≤ maxLen) (hy : IntsR w w.heap.size A2 ms) (hl : ms.length ≤ maxLen) :
    Calls Try.prog 41 #[mazA W H A n cap fr tt, .slice A2 ms.length c2] w fun e w' => e = .returned (.tuple #[I (rolV W H fr tt n wall ms), I (rolE W H fr tt n wall ms)]) ∧ Below w.heap.size w w' := by
  have hl' := hl
  unfold maxLen at hl'
  obtain ⟨w1, hw1, hs1, y0, hb1⟩ := one_box w (.cells #[I W, I H, .slice A n cap, I fr, I tt] 52)
  have f0 : w1.cell? ⟨w.heap.size, 0, none⟩ = some (I W) := cell_of_row w1 _ 0 _ _ _ y0
  have f1 : w1.cell? ⟨w.heap.size, 1, none⟩ = some (I H) := cell_of_row w1 _ 1 _ _ _ y0
  have f2 : w1.cell? ⟨w.heap.size, 2, none⟩ = some (.slice A n cap) := cell_of_row w1 _ 2 _ _ _ y0
  have f3 : w1.cell? ⟨w.heap.size, 3, none⟩ = some (I fr) := cell_of_row w1 _ 3 _ _ _ y0
  have f4 : w1.cell? ⟨w.heap.size, 4, none⟩ = some (I tt) := cell_of_row w1 _ 4 _ _ _ y0
  have s0 : w.heap.size < w1.heap.size := by omega
  have hx1 := boos_call hb1 hx
  have hy1 := ints_call hb1 hy
  have hcall := checkMaze_any W H fr tt A n cap wall w1 hx1 hln
  obtain ⟨E1, hE1⟩ : ∃ E1 : Int, E1 = if mazB W H fr tt n wall then 0 else 30 := ⟨_, rfl⟩
  rw [← hE1] at hcall
  have HE1 := Lib.hid hE1
  have Y0 := Lib.hid y0
  clear y0 hs1 hx hy hE1
  go_enter Try.func41, Try.ntmps41
  go_upto_region 1 with fail
  rw [← hw1]
  clear hw1
  go_wp2_with fail
  refine hcall.mono ?_
  rintro e w2 ⟨rfl, hb2⟩
  have hx2 := boos_call hb2 hx1
  have hy2 := ints_call hb2 hy1
  have hB2 := hb1.trans (hb2.mono hb1.size)
  have Y2 := Lib.hid ((hb2.block _ s0).trans Y0.out)
  have s2 : w.heap.size < w2.heap.size := by have := hb2.size; omega
  clear hcall f0 f1 f2 f3 f4 hb2 hx1 hy1 Y0
  cases hok : mazB W H fr tt n wall
  · have e1 : E1 = 30 := by have := HE1.out; rw [hok] at this; simpa using this
    subst e1
    have HE := Lib.hid (show rolE W H fr tt n wall ms = 30 by rw [rolE, hok]; rfl)
    have HV := Lib.hid (show rolV W H fr tt n wall ms = 0 by rw [rolV, if_neg (by rw [HE.out]; decide)])
    go_wp2
    go_ret2
    exact ⟨by rw [HV.out, HE.out]; rfl, hB2⟩
  · have e1 : E1 = 0 := by have := HE1.out; rw [hok] at this; simpa using this
    subst e1
    have HE := Lib.hid (show rolE W H fr tt n wall ms = if movB ms then 0 else 1 by rw [rolE, hok]; cases movB ms <;> rfl)
    have HOK := Lib.hid hok
    clear hok
    by_cases hlen : ms.length ≤ 200
    · have g1 : ¬ (200 : Int) < ms.length := by omega
      have g2 : decide ((200 : Int) < ms.length) = false := decide_eq_false g1
      have HMB := Lib.hid (show movB ms = inB 0 3 ms by rw [movB, decide_eq_true hlen]; rfl)
      go_wp2_with fail
      go_loopw [7] (fun i wr => ∃ k : Nat, k ≤ ms.length ∧ i = .int .i64 k ∧ Hid ((ms.take k).all (fun s => wi s 0 3) = true) ∧ wr = w2) (fun i _ => ms.length - (intOf i).toNat)
      case atStart => exact ⟨0, Nat.zero_le _, rfl, Lib.hid rfl, rfl⟩
      case round =>
        obtain ⟨k, hk, rfl, HA, hwr⟩ := hrel
        rw [hwr]
        clear hwr
        by_cases hlt : k < ms.length
        · obtain ⟨ad, rfl, hb, hc⟩ := hy2.at_ hlt
          cases hp : wi (nth ms k) 0 3
          · have h2 : inB 0 3 ms = false := not_all (fun s => wi s 0 3) ms k hlt hp
            have HE := Lib.hid (show rolE W H fr tt n wall ms = 1 by rw [HE.out, HMB.out, h2]; rfl)
            have HV := Lib.hid (show rolV W H fr tt n wall ms = 0 by rw [rolV, if_neg (by rw [HE.out]; decide)])
            clear h2
            go_wp2_with (go_at_call 67; refine (rWithin_any _ _ _ _).mono ?_; rintro e w' ⟨rfl, hww⟩; rw [hww, hp]; clear hww)
            go_ret2
            exact ⟨by rw [HV.out, HE.out]; rfl, hB2⟩
          · go_wp2_with (go_at_call 67; refine (rWithin_any _ _ _ _).mono ?_; rintro e w' ⟨rfl, hww⟩; rw [hww, hp]; clear hww)
            go_roundw
            case rel => exact ⟨k + 1, by omega, by go_num, Lib.hid (all_take_snoc (fun s => wi s 0 3) ms k hlt HA.out hp), trivial⟩
            case measure => simp [intOf]; omega
        · obtain rfl : k = ms.length := by omega
          have hall := HA.out
          rw [List.take_length] at hall
          have hmb : movB ms = true := by rw [HMB.out]; exact hall
          have HZ := Lib.hid (show rolE W H fr tt n wall ms = 0 by rw [HE.out, hmb]; rfl)
          obtain ⟨hmv, hm200⟩ := movB_mv hmb
          obtain ⟨W', H', f, t, rfl, rfl, rfl, rfl, h1, h2, h3, h4, hn, hn9, hf, ht, hwf, hwt⟩ := maz_nat HOK.out
          have HV := Lib.hid (show rolV W' H' f t n wall ms = (wlk W' H' wall f ms : Nat) by rw [rolV, if_pos HZ.out]; rfl)
          have HN := Lib.hid hn
          have r2 := Y2.out
          have p3 : w2.cell? ⟨w.heap.size, 3, none⟩ = some (I f) := cell_of_row w2 _ 3 _ _ _ r2
          have HM := Lib.hid hmv
          have HWF := Lib.hid hwf
          clear r2 hmv hwf hwt hn hall HA HE hmb
          go_wp2_with fail
          go_loopw [8, 9] (fun x i wr => ∃ k c : Nat, k ≤ ms.length ∧ i = I k ∧ x = I c ∧ c < n ∧ Hid (c = wlk W' H' wall f (ms.take k)) ∧ Below w2.heap.size w2 wr) (fun _ i _ => ms.length - (intOf i).toNat)
          case atStart => exact ⟨0, f, Nat.zero_le _, rfl, rfl, hf, Lib.hid rfl, Below.refl _ _⟩
          case round =>
            obtain ⟨k, c, hk, rfl, rfl, hc, HC, hBr⟩ := hrel
            obtain ⟨wx, hwx⟩ : ∃ wx : World, wx = wr := ⟨_, rfl⟩
            rw [← hwx] at hBr
            rw [← hwx]
            clear hwx
            by_cases hlt : k < ms.length
            · have hyr := ints_call hBr hy2
              have hxr := boos_call hBr hx2
              obtain ⟨ad, rfl, hbA, hcA⟩ := hyr.at_ hlt
              have hs := HM.out.nth hlt
              have HS := Lib.hid (wlk_take W' H' wall f ms k hlt)
              obtain ⟨s, hsn⟩ : ∃ s : Nat, nth ms k = s := ⟨(nth ms k).toNat, by omega⟩
              rw [hsn] at hcA hs
              have HSN := Lib.hid hsn
              have r2 := (hBr.block _ s2).trans Y2.out
              have p0 : wx.cell? ⟨w.heap.size, 0, none⟩ = some (I W') := cell_of_row wx _ 0 _ _ _ r2
              have p1 : wx.cell? ⟨w.heap.size, 1, none⟩ = some (I H') := cell_of_row wx _ 1 _ _ _ r2
              have p2 : wx.cell? ⟨w.heap.size, 2, none⟩ = some (.slice A n cap) := cell_of_row wx _ 2 _ _ _ r2
              have p3 : wx.cell? ⟨w.heap.size, 3, none⟩ = some (I f) := cell_of_row wx _ 3 _ _ _ r2
              have p4 : wx.cell? ⟨w.heap.size, 4, none⟩ = some (I t) := cell_of_row wx _ 4 _ _ _ r2
              have hcw : wall c = false := by
                rw [HC.out]
                exact (wlk_in h1 (by rw [← HN.out]; exact hf) HWF.out _ (HM.out.take k)).2
              have hin := rol_in h1 (show s ≤ 3 by omega) (show c < W' * H' by rw [← HN.out]; exact hc) hcw
              obtain ⟨y, hy⟩ : ∃ y, y = rolF W' H' wall c s := ⟨_, rfl⟩
              have C1 : ∀ V, KeptW wx V → Calls Try.prog 109 #[mazA W' H' A n cap f t, I c, I s] V fun e w' => e = .returned (I y) ∧ Below V.heap.size V w' := fun V hV => by
                rw [hy]
                exact rolls_any W' H' c s n f t A cap wall V h1 h2 h4 HN.out hn9 hc (by omega) (boos_call hV.1 hxr)
              have HY := Lib.hid hy
              rw [← hy] at hin
              clear r2 hsn hyr hxr hcw hy
              have hd4 : decide ((k : Int) < ms.length) = true := decide_eq_true (by omega)
              go_upto_region 15 with fail
              have sx : w.heap.size < wx.heap.size := by have := hBr.size; omega
              have hab : (ad.add k).block < wx.heap.size := by rw [block_of_add]; exact hbA
              go_region_held3 (fun w' => Below wx.heap.size wx w' ∧ (∀ a : Addr, a.block < wx.heap.size → w'.cell? a = wx.cell? a))
                (first | exact keptW_drew _ | exact keptW_call (by assumption) hb | assumption)
                ((go_at_call 109; go_must (refine (C1 _ (by assumption)).mono ?_); rintro e w' ⟨rfl, hb⟩))
              all_goals
                clear C1 p0 p1 p2 p3 p4 hcA
                go_wp2_with fail
                go_roundw
                case rel => exact ⟨k + 1, y, by omega, by go_num, rfl, by rw [HN.out]; exact hin.1, Lib.hid (by rw [HS.out, ← HC.out, HSN.out, HY.out]; rfl), hBr.trans ((keptW_below (by assumption)).mono hBr.size)⟩
                case measure => simp [intOf]; omega
            · obtain rfl : k = ms.length := by omega
              have HD := HC.out
              rw [List.take_length] at HD
              have HD := Lib.hid HD
              clear HC p3
              go_wp2
              go_ret2
              exact ⟨by rw [HV.out, HZ.out, ← HD.out]; rfl, hB2.trans (hBr.mono hB2.size)⟩
    · have g1 : (200 : Int) < ms.length := by omega
      have g2 : decide ((200 : Int) < ms.length) = true := decide_eq_true g1
      have HE := Lib.hid (show rolE W H fr tt n wall ms = 1 by rw [HE.out, movB, decide_eq_false hlen]; rfl)
      have HV := Lib.hid (show rolV W H fr tt n wall ms = 0 by rw [rolV, if_neg (by rw [HE.out]; decide)])
      go_wp2
      go_ret2
      exact ⟨by rw [HV.out, HE.out]; rfl, hB2⟩
end Go.Proofs.Ytfjincdlenneaaa
