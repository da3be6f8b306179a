/-
  CONTRACT: the law PuzzlesThrough.
-/
import Derived.Test.YtfjincdlenneaaaPzThrA
import Derived.Test.YtfjincdlenneaaaPzRMazR
import Derived.Test.YtfjincdlenneaaaPzWorks
import Derived.Test.YtfjincdlenneaaaPzApp
namespace Go.Proofs.Ytfjincdlenneaaa
open Go.RowKit Go.Shelf
theorem mv_movB {ms : List Int} (h : Mv ms) (hl : ms.length ≤ 200) : movB ms = true := by
  simp only [movB, inB, Bool.and_eq_true, decide_eq_true_eq, List.all_eq_true]
  refine ⟨hl, fun x hx => ?_⟩
  have := h x hx
  simp [wi]
  omega
theorem rolE_mov {W H fr tt : Int} {n : Nat} {wall : Nat → Bool} {ms : List Int} (h : mazB W H fr tt n wall = true) : rolE W H fr tt n wall ms = if movB ms then 0 else 1 := by rw [rolE, h]; cases movB ms <;> rfl
set_option maxRecDepth 100000 in
set_option maxHeartbeats 8000000 in
theorem through_law (W H fr tt : Int) (A A2 : Option Addr) (n cap c2 : Nat) (wall : Nat → Bool) (ms : List Int) (w : World) (hx : BoosR w w.heap.size A wall n) (hy : IntsR w w.heap.size A2 ms) (hl : ms.length ≤ maxLen) (hc2 : ms.length ≤ c2) :
    Calls Try.prog 14 #[mazA W H A n cap fr tt, .slice A2 ms.length c2] w fun e w' => e = .returned (.bool true) ∧ Below w.heap.size w w' := by
  have hl' := hl
  unfold maxLen at hl'
  obtain ⟨wa, ha, sa, ya, ba⟩ := one_box w (.cells #[I W, I H, .slice A n cap, I fr, I tt] 52)
  have cells : ∀ V, Below wa.heap.size wa V → V.cell? ⟨w.heap.size, 0, none⟩ = some (I W) ∧ V.cell? ⟨w.heap.size, 1, none⟩ = some (I H) ∧ V.cell? ⟨w.heap.size, 2, none⟩ = some (.slice A n cap) ∧ V.cell? ⟨w.heap.size, 3, none⟩ = some (I fr) ∧ V.cell? ⟨w.heap.size, 4, none⟩ = some (I tt) := fun V hV => by
    have y := (hV.block w.heap.size (by omega)).trans ya
    exact ⟨cell_of_row V _ 0 _ _ _ y, cell_of_row V _ 1 _ _ _ y, cell_of_row V _ 2 _ _ _ y, cell_of_row V _ 3 _ _ _ y, cell_of_row V _ 4 _ _ _ y⟩
  have HC := Lib.hid cells
  obtain ⟨f0, f1, f2, f3, f4⟩ := cells wa (Below.refl _ _)
  have hx1 := boos_call ba hx
  have hy1 := ints_call ba hy
  have hsw : w.heap.size < wa.heap.size := by omega
  clear ya hx hy sa cells
  go_enter Try.func14, Try.ntmps14
  go_upto_region 1 with fail
  rw [← ha]
  clear ha
  by_cases h60 : 60 < ms.length
  · have g1 : decide ((60 : Int) < ms.length) = true := decide_eq_true (by omega)
    have g2 : (60 : Int) < ms.length := by omega
    go_wp2_with fail
    refine (works_any wa).mono ?_
    rintro e w8 ⟨rfl, hb8⟩
    go_wp2
    go_ret
    exact ⟨rfl, ba.trans (hb8.mono ba.size)⟩
  · have g1 : decide ((60 : Int) < ms.length) = false := decide_eq_false (by omega)
    have g2 : ¬ (60 : Int) < ms.length := by omega
    have hm1 : (escL W H fr tt n wall).length ≤ 64 := escM_len W H fr tt n wall
    have C1 := Escape_any W H fr tt A n cap wall wa hx1
    have C2 := fun V h1 => Traps_any W H fr tt A n cap wall V h1
    go_wp2_with fail
    refine C1.mono ?_
    rintro e w1 ⟨A3, c3, rfl, i3, hb1⟩
    have hW1 := hb1
    obtain ⟨f0, f1, f2, f3, f4⟩ := HC.out w1 hW1
    have hx2 := boos_call hb1 hx1
    have hy2 := ints_call hb1 hy1
    clear hb1 C1 hx1 hy1
    go_wp2_with fail
    refine (C2 _ hx2).mono ?_
    rintro e w2 ⟨A4, c4, rfl, i4, hb2⟩
    have hW2 := hW1.trans (hb2.mono hW1.size)
    obtain ⟨f0, f1, f2, f3, f4⟩ := HC.out w2 hW2
    have hx3 := boos_call hb2 hx2
    have hy3 := ints_call hb2 hy2
    have i3' := ints_call hb2 i3
    clear hb2 C2 hx2 hy2 i3 hW1
    cases hok : mazB W H fr tt n wall
    · have e1 : escE W H fr tt n wall = 30 := by rw [escE, hok]; rfl
      have e2 : trpE W H fr tt n wall = 30 := by rw [trpE, hok]; rfl
      rw [e1, e2]
      go_wp2_with fail
      refine (works_any w2).mono ?_
      rintro e w8 ⟨rfl, hb8⟩
      go_wp2
      go_ret
      exact ⟨rfl, ba.trans ((hW2.trans (hb8.mono hW2.size)).mono ba.size)⟩
    · have e2 : trpE W H fr tt n wall = 0 := by rw [trpE, hok]; rfl
      rw [e2]
      have HOK := Lib.hid hok
      obtain ⟨W', H', f, t, rfl, rfl, rfl, rfl, h1, h2, h3, h4, hn, hn9, hf, ht, hwf, hwt⟩ := maz_nat hok
      have HN := Lib.hid hn
      have HWF := Lib.hid hwf
      have HM := Lib.hid (show trpL W' H' f t n wall = numsG (trpB W' H' wall f t) n by rw [trpL, hok]; rfl)
      have HO := Lib.hid (show escN W' H' f t n wall = escO W' H' wall f t by rw [escN, hok]; rfl)
      obtain ⟨P, hP⟩ : ∃ P, P = escL W' H' f t n wall := ⟨_, rfl⟩
      obtain ⟨M, hM⟩ : ∃ M, M = trpL W' H' f t n wall := ⟨_, rfl⟩
      obtain ⟨E, hE⟩ : ∃ E, E = escE W' H' f t n wall := ⟨_, rfl⟩
      have hMl : M.length ≤ 1000000 := by rw [hM]; exact Nat.le_trans (trpM_len W' H' f t n wall) (by omega)
      rw [← hP] at i3' hm1
      rw [← hM] at i4
      rw [← hP, ← hM, ← hE]
      have HP := Lib.hid hP
      have HMM := Lib.hid hM
      have HE := Lib.hid hE
      clear hP hM hE hok hn hwf hwt e2
      have HB : Hid ((E = 0 ∧ Best W' H' wall f t P) ∨ (E = 3 ∧ escO W' H' wall f t = none)) := Lib.hid (by
        cases he : escO W' H' wall f t with
        | none => exact .inr ⟨by rw [HE.out, escE, HOK.out, HO.out, he]; rfl, rfl⟩
        | some Q =>
          refine .inl ⟨by rw [HE.out, escE, HOK.out, HO.out, he]; rfl, ?_⟩
          have : P = Q := by rw [HP.out, escL, HO.out, he]; rfl
          rw [this]
          exact esc_some he)
      have hcN : f < W' * H' := by rw [← HN.out]; exact hf
      clear HO
      go_upto_if 38 with fail
      go_cut [9] from 38 to 57 (fun _ wz => KeptW w2 wz)
      case first =>
        by_cases hE0 : E = 0
        · have hb : Best W' H' wall f t P := by
            rcases HB.out with h | h
            · exact h.2
            · have := h.1; omega
          have hmb := mv_movB hb.1 (by omega)
          have hr0 : rolE W' H' f t n wall P = 0 := by rw [rolE_mov HOK.out, hmb]; rfl
          have hrv : rolV W' H' f t n wall P = (t : Nat) := by
            rw [rolV, if_pos hr0]
            show ((wlk W' H' wall f P : Nat) : Int) = t
            rw [hb.2.1]
          have hcall := Roll_any W' H' f t A A3 n cap c3 wall P w2 hx3 i3' (by unfold maxLen; omega)
          rw [hr0, hrv] at hcall
          have d1 : decide ((P.length : Int) ≤ 200) = true := decide_eq_true (by omega)
          have d2 : (E == 0) = true := by rw [hE0]; rfl
          have d3 : ((t : Int) != (t : Int)) = false := by simp
          clear hb hmb hr0 hrv hE0
          go_wp2_with fail
          refine hcall.mono ?_
          rintro e w4 ⟨rfl, hb4⟩
          have hk := keptW_of hb4
          have hW4 := hW2.trans (hb4.mono hW2.size)
          obtain ⟨f0, f1, f2, f3, f4⟩ := HC.out w4 hW4
          have HK := Lib.hid hk
          clear hcall hb4 hk
          go_wp2_with fail
          go_meet
          exact HK.out
        · have d2 : (E == 0) = false := by simpa using hE0
          have hk : KeptW w2 w2 := keptW_of (Below.refl _ _)
          have HK := Lib.hid hk
          clear hk hE0
          go_wp2_with fail
          go_meet
          exact HK.out
      case rest =>
        have hWc := hW2.trans (hcut.1.mono hW2.size)
        have hxc := boos_call hcut.1 hx3
        have hyc := ints_call hcut.1 hy3
        have i3c := ints_call hcut.1 i3'
        have i4c := ints_call hcut.1 i4
        clear hcut hx3 hy3 i3' i4 f0 f1 f2 f3 f4 hW2
        obtain ⟨w3, hw3⟩ : ∃ w3 : World, w3 = wc := ⟨_, rfl⟩
        rw [← hw3] at hWc hxc hyc i3c i4c
        rw [← hw3]
        clear hw3
        go_wp2_with fail
        go_loopw [11, 12] (fun b i wr => ∃ (k : Nat) (tb : Bool), k ≤ ms.length + 1 ∧ i = I k ∧ b = .bool tb ∧ Hid (tb = true → ∃ j, j < k ∧ trpB W' H' wall f t (wlk W' H' wall f (ms.take j)) = true) ∧ Below w3.heap.size w3 wr) (fun _ i _ => ms.length + 1 - (intOf i).toNat)
        case atStart => exact ⟨0, false, Nat.zero_le _, rfl, rfl, Lib.hid (fun h => by cases h), Below.refl _ _⟩
        case round =>
          obtain ⟨k, tb, hk, rfl, rfl, HT, hB⟩ := hrel
          obtain ⟨wx, hwx⟩ : ∃ wx : World, wx = wr := ⟨_, rfl⟩
          rw [← hwx] at hB
          rw [← hwx]
          clear hwx
          have hWx := hWc.trans (hB.mono hWc.size)
          by_cases hlt : k ≤ ms.length
          · obtain ⟨f0, f1, f2, f3, f4⟩ := HC.out wx hWx
            have hxx := boos_call hB hxc
            have hyx := ints_call hB hyc
            have sx : w.heap.size < wx.heap.size := by have := hWx.size; omega
            obtain ⟨m, hm⟩ : ∃ m, m = ms.take k := ⟨_, rfl⟩
            have hml : m.length = k := by rw [hm, List.length_take]; omega
            have hmx : IntsR wx wx.heap.size A2 m := by rw [hm]; exact ints_take hyx k
            obtain ⟨r, hr⟩ : ∃ r, r = rolV W' H' f t n wall m := ⟨_, rfl⟩
            obtain ⟨e1, he1⟩ : ∃ e1, e1 = rolE W' H' f t n wall m := ⟨_, rfl⟩
            have C3 : ∀ V, KeptW wx V → Calls Try.prog 40 #[mazA W' H' A n cap f t, .slice A2 k c2] V fun e w' => e = .returned (.tuple #[I r, I e1]) ∧ Below V.heap.size V w' := fun V hV => by
              rw [hr, he1, ← hml]
              exact Roll_any W' H' f t A A2 n cap c2 wall m V (boos_call hV.1 hxx) (ints_call hV.1 hmx) (by unfold maxLen; omega)
            have HR := Lib.hid hr
            have HE1 := Lib.hid he1
            have HMK := Lib.hid hm
            have d1 : decide ((k : Int) ≤ ms.length) = true := decide_eq_true (by omega)
            have hkc : k ≤ c2 := by omega
            clear hr he1 hm
            go_upto_region 15 with fail
            go_cut [13, 14] from 64 to 71 (fun s13 s14 wz => s13 = I r ∧ s14 = I e1 ∧ KeptW wx wz)
            case first =>
              go_region_held3 (fun w' => Below wx.heap.size wx w' ∧ (∀ a : Addr, a.block < wx.heap.size → w'.cell? a = wx.cell? a))
                (first | exact keptW_drew _ | exact keptW_call (by assumption) hb | assumption)
                ((go_at_call 40; go_must (refine (C3 _ (by assumption)).mono ?_); rintro e w' ⟨rfl, hb⟩))
              all_goals
                go_wp2_with fail
                go_meet
                exact ⟨rfl, rfl, by assumption⟩
            case rest =>
              obtain ⟨rfl, rfl, hkk⟩ := hcut
              have hB4 := hB.trans (hkk.1.mono hB.size)
              have hW4 := hWx.trans (hkk.1.mono hWx.size)
              have hx4 := boos_call hkk.1 hxx
              have hm4 := ints_call hkk.1 hmx
              have i3x := ints_call hB4 i3c
              have i4x := ints_call hB4 i4c
              clear hkk C3 hxx hyx hmx f0 f1 f2 f3 f4
              obtain ⟨f0, f1, f2, f3, f4⟩ := HC.out wc hW4
              have sc : w.heap.size < wc.heap.size := by have := hW4.size; omega
              cases hmb : movB m
              · have q1 : e1 = 1 := by rw [HE1.out, rolE_mov HOK.out, hmb]; rfl
                subst q1
                go_wp2_with fail
                refine (works_any wc).mono ?_
                rintro e w8 ⟨rfl, hb8⟩
                go_wp2
                go_ret
                exact ⟨rfl, ba.trans ((hW4.trans (hb8.mono hW4.size)).mono ba.size)⟩
              · have q1 : e1 = 0 := by rw [HE1.out, rolE_mov HOK.out, hmb]; rfl
                obtain ⟨c, hcd⟩ : ∃ c, c = wlk W' H' wall f m := ⟨_, rfl⟩
                have q2 : r = (c : Nat) := by
                  rw [HR.out, rolV, if_pos (by rw [← HE1.out]; exact q1), hcd]; rfl
                subst q1 q2
                have hmv := (movB_mv hmb).1
                have hin := wlk_in h1 hcN HWF.out m hmv
                rw [← hcd] at hin
                have hcn : c < n := by rw [HN.out]; exact hin.1
                obtain ⟨ad, rfl, hbA, hcA⟩ := hx4.at_ hcn
                rw [hin.2] at hcA
                have HCD := Lib.hid hcd
                have HMV := Lib.hid hmv
                have d2 : decide ((c : Int) < 0) = false := decide_eq_false (by omega)
                have d3 : decide ((n : Int) ≤ c) = false := decide_eq_false (by omega)
                have d4 : ¬ (c : Int) < 0 := by omega
                have d5 : ¬ (n : Int) ≤ c := by omega
                have HNEV : Hid (∀ j, j < k + 1 → trpB W' H' wall f t (wlk W' H' wall f (ms.take j)) = true → c ≠ t) := Lib.hid (fun j hj ht' => by
                  have := trap_never (i := k) (by omega) (by rw [← HMK.out]; exact HMV.out) ht'
                  rw [← HMK.out, ← HCD.out] at this
                  exact this)
                have HTC : Hid (trpB W' H' wall f t c = true → ∃ j, j < k + 1 ∧ trpB W' H' wall f t (wlk W' H' wall f (ms.take j)) = true) := Lib.hid (fun h => ⟨k, by omega, by rw [← HMK.out, ← HCD.out]; exact h⟩)
                have HHAS := Lib.hid (show hasM M (c : Int) = trpB W' H' wall f t c by rw [HMM.out, HM.out]; exact has_nums hcn)
                clear hmb hin hcd hmv hx4
                cases tb with
                | true =>
                  have HT2 : Hid (∃ j, j < k + 1 ∧ trpB W' H' wall f t (wlk W' H' wall f (ms.take j)) = true) := Lib.hid (by
                    obtain ⟨j, hj, h⟩ := HT.out rfl
                    exact ⟨j, by omega, h⟩)
                  have hct : c ≠ t := by
                    obtain ⟨j, hj, h⟩ := HT2.out
                    exact HNEV.out j hj h
                  have d6 : ((c : Int) != (t : Int)) = true := by simp; omega
                  go_wp2_with fail
                  go_roundw
                  case rel => exact ⟨k + 1, true, by omega, by go_num, rfl, Lib.hid (fun _ => HT2.out), hB4⟩
                  case measure => simp [intOf]; omega
                | false =>
                  have hcall := lhasM_any A4 c4 M (c : Int) wc i4x hMl
                  rw [HHAS.out] at hcall
                  cases htr : trpB W' H' wall f t c
                  · rw [htr] at hcall
                    clear htr
                    by_cases hct : c = t
                    · have HEZ : Hid (E = 0 ∧ Best W' H' wall f t P) := Lib.hid (by
                        rcases HB.out with h | h
                        · exact h
                        · exact absurd (by rw [← HCD.out]; exact hct) (esc_none h.2 HMV.out))
                      have hE0 : E = 0 := HEZ.out.1
                      have hge : P.length ≤ k := by
                        rw [← hml]
                        exact HEZ.out.2.short HMV.out (by rw [← HCD.out]; exact hct)
                      have HEAR : Hid (k = P.length → earM m P = false) := Lib.hid (fun e => by
                        cases he : earM m P
                        · rfl
                        · have h5 := cod_ear m P HMV.out HEZ.out.2.1 (by omega) he
                          have h6 := HEZ.out.2.2.2 m HMV.out (by rw [← HCD.out]; exact hct)
                          omega)
                      have d6 : ((c : Int) != (t : Int)) = false := by rw [hct]; simp
                      have d7 : decide ((k : Int) < P.length) = false := decide_eq_false (by omega)
                      have d8 : ¬ (k : Int) < P.length := by omega
                      have hEAR := earlierM_any A2 A3 c2 c3 m P wc hm4 i3x (by omega) (by omega)
                      subst hE0
                      clear hct
                      by_cases hkP : k = P.length
                      · have d9 : ((k : Int) == (P.length : Int)) = true := by rw [hkP]; simp
                        rw [HEAR.out hkP, hml] at hEAR
                        clear hkP
                        go_wp2_with (first
                          | (go_at_call 55; refine hcall.mono ?_; rintro e w' ⟨rfl, hww⟩; rw [hww]; clear hww)
                          | (go_at_call 58; refine hEAR.mono ?_; rintro e w9 ⟨rfl, hb9⟩))
                        go_roundw
                        case rel => exact ⟨k + 1, false, by omega, by go_num, rfl, Lib.hid (fun h => by cases h), hB4.trans (hb9.mono hB4.size)⟩
                        case measure => simp [intOf]; omega
                      · have d9 : ((k : Int) == (P.length : Int)) = false := by simp; omega
                        go_wp2_with (go_at_call 55; refine hcall.mono ?_; rintro e w' ⟨rfl, hww⟩; rw [hww]; clear hww)
                        go_roundw
                        case rel => exact ⟨k + 1, false, by omega, by go_num, rfl, Lib.hid (fun h => by cases h), hB4⟩
                        case measure => simp [intOf]; omega
                    · have d6 : ((c : Int) != (t : Int)) = true := by simp; omega
                      go_wp2_with (go_at_call 55; refine hcall.mono ?_; rintro e w' ⟨rfl, hww⟩; rw [hww]; clear hww)
                      go_roundw
                      case rel => exact ⟨k + 1, false, by omega, by go_num, rfl, Lib.hid (fun h => by cases h), hB4⟩
                      case measure => simp [intOf]; omega
                  · have HT2 : Hid (∃ j, j < k + 1 ∧ trpB W' H' wall f t (wlk W' H' wall f (ms.take j)) = true) := Lib.hid (HTC.out htr)
                    have hct : c ≠ t := by
                      obtain ⟨j, hj, h⟩ := HT2.out
                      exact HNEV.out j hj h
                    have d6 : ((c : Int) != (t : Int)) = true := by simp; omega
                    rw [htr] at hcall
                    clear htr
                    go_wp2_with (go_at_call 55; refine hcall.mono ?_; rintro e w' ⟨rfl, hww⟩; rw [hww]; clear hww)
                    go_roundw
                    case rel => exact ⟨k + 1, true, by omega, by go_num, rfl, Lib.hid (fun _ => HT2.out), hB4⟩
                    case measure => simp [intOf]; omega
          · obtain rfl : k = ms.length + 1 := by omega
            have d1 : decide (((ms.length + 1 : Nat) : Int) ≤ ms.length) = false := decide_eq_false (by omega)
            have d2 : ¬ (((ms.length + 1 : Nat) : Int) ≤ ms.length) := by omega
            have d3 : ¬ ((ms.length : Int) + 1 ≤ ms.length) := by omega
            go_wp2_with fail
            refine (works_any wx).mono ?_
            rintro e w8 ⟨rfl, hb8⟩
            go_wp2
            go_ret
            exact ⟨rfl, ba.trans ((hWx.trans (hb8.mono hWx.size)).mono ba.size)⟩
end Go.Proofs.Ytfjincdlenneaaa
