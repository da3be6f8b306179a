/-
  CONTRACTS: Roll.
-/
import Derived.Test.YtfjincdlenneaaaPzMazO
import Derived.Test.YtfjincdlenneaaaPzMazC
namespace Go.Proofs.Ytfjincdlenneaaa
open Go.RowKit Go.Shelf
theorem wlk_take (W H : Nat) (wall : Nat → Bool) (c : Nat) (ms : List Int) (k : Nat) (hk : k < ms.length) : wlk W H wall c (ms.take (k + 1)) = rolF W H wall (wlk W H wall c (ms.take k)) (nth ms k).toNat := by
  rw [List.take_succ_eq_append_getElem hk, wlk_snoc, nth_lt hk]
theorem Mv.take {ms : List Int} (h : Mv ms) (k : Nat) : Mv (ms.take k) := fun x hx => h x (List.mem_of_mem_take hx)
theorem Mv.nth {ms : List Int} (h : Mv ms) {k : Nat} (hk : k < ms.length) : 0 ≤ nth ms k ∧ nth ms k ≤ 3 := by
  rw [nth_lt hk]; exact h _ (List.getElem_mem _)
set_option maxRecDepth 100000 in
set_option maxHeartbeats 4000000 in
theorem Roll_any (W H fr tt : Int) (A A2 : Option Addr) (n cap c2 : Nat) (wall : Nat → Bool) (ms : List Int) (w : World) (hx : BoosR w w.heap.size A wall n) (hy : IntsR w w.heap.size A2 ms) (hl : ms.length ≤ maxLen) :
    Calls Try.prog 40 #[.agg #[I W, I H, .slice A n cap, I fr, I tt], .slice A2 ms.length c2] w fun e w' => e = .returned (.tuple #[I (rolV W H fr tt n wall ms), I (rolE W H fr tt n wall ms)]) ∧ Below w.heap.size w w' := by
  have hl' := hl
  unfold maxLen at hl'
  obtain ⟨wa, ha, sa, ya, ba⟩ := one_box w (.cells #[I W, I H, .slice A n cap, I fr, I tt] 52)
  have f0 : wa.cell? ⟨w.heap.size, 0, none⟩ = some (I W) := cell_of_row wa _ 0 _ _ _ ya
  have f1 : wa.cell? ⟨w.heap.size, 1, none⟩ = some (I H) := cell_of_row wa _ 1 _ _ _ ya
  have f2 : wa.cell? ⟨w.heap.size, 2, none⟩ = some (.slice A n cap) := cell_of_row wa _ 2 _ _ _ ya
  have f3 : wa.cell? ⟨w.heap.size, 3, none⟩ = some (I fr) := cell_of_row wa _ 3 _ _ _ ya
  have f4 : wa.cell? ⟨w.heap.size, 4, none⟩ = some (I tt) := cell_of_row wa _ 4 _ _ _ ya
  have hx1 := boos_call ba hx
  have hy1 := ints_call ba hy
  obtain ⟨E1, hE1⟩ : ∃ E1 : Int, E1 = if mazB W H fr tt n wall then 0 else 30 := ⟨_, rfl⟩
  obtain ⟨b2, hb2⟩ : ∃ b2, b2 = movB ms := ⟨_, rfl⟩
  obtain ⟨E2, hE2⟩ : ∃ E2 : Int, E2 = if b2 then 0 else 1 := ⟨_, rfl⟩
  have C1 : ∀ V, BoosR V V.heap.size A wall n → Calls Try.prog 105 #[mazW W H fr tt A n cap] V fun e w' => e = .returned (I E1) ∧ Below V.heap.size V w' := fun V h => by rw [hE1]; exact mcheck_any _ _ _ _ _ _ _ _ V h
  have C2 : ∀ V, IntsR V V.heap.size A2 ms → Calls Try.prog 106 #[.slice A2 ms.length c2] V fun e w' => e = .returned (.bool b2) ∧ Below V.heap.size V w' := fun V h => by rw [hb2]; exact areMoves_any _ _ ms V h hl
  have C3 : ∀ V, Calls Try.prog 64 #[.bool b2, I 1] V fun e w' => e = .returned (I E2) ∧ w' = V := fun V => by rw [hE2]; exact unless_any b2 1 V
  obtain ⟨E, hE⟩ : ∃ E, E = fstErr [E1, E2] := ⟨_, rfl⟩
  have C4 : ∀ (V : World) (B : Option Addr) (k : Nat), IntsR V V.heap.size B [E1, E2] → Calls Try.prog 62 #[.slice B 2 k] V fun e w' => e = .returned (I E) ∧ w' = V := fun V B k h => by
    rw [hE]; exact (first_any B k [E1, E2] V h (by simp [maxLen])).mono fun e w' ⟨p, q⟩ => ⟨p, q.symm⟩
  have HEE := Lib.hid (show E = rolE W H fr tt n wall ms by rw [hE, hE1, hE2, hb2, rolE])
  clear ya hx hy hE1 hb2 hE2 hE
  go_enter Try.func40, Try.ntmps40
  go_upto_region 1 with fail
  rw [← ha]
  clear ha
  go_wp2_with fail
  refine (mazeOf_any W H fr tt A n cap wa).mono ?_
  rintro e w2 ⟨rfl, hb2⟩
  go_upto_region 2 with fail
  obtain ⟨w3, hw3, hs3, r3, hb3⟩ := one_box w2 (.cells #[I W, I H, I fr, I tt, .slice A n cap] 117)
  rw [← hw3]
  have hx3 := boos_call hb3 (boos_call hb2 hx1)
  have hy3 := ints_call hb3 (ints_call hb2 hy1)
  have hB3 : Below w.heap.size w w3 := ba.trans ((hb2.mono (by omega)).trans (hb3.mono (by have := hb2.size; omega)))
  obtain ⟨g, hg⟩ : ∃ g, g = w2.heap.size := ⟨_, rfl⟩
  rw [← hg] at r3 hs3
  rw [← hg]
  have hgs : g < w3.heap.size := by omega
  have p0 : w3.cell? ⟨g, 0, none⟩ = some (I W) := cell_of_row w3 _ 0 _ _ _ r3
  have p1 : w3.cell? ⟨g, 1, none⟩ = some (I H) := cell_of_row w3 _ 1 _ _ _ r3
  have p2 : w3.cell? ⟨g, 2, none⟩ = some (I fr) := cell_of_row w3 _ 2 _ _ _ r3
  have p3 : w3.cell? ⟨g, 3, none⟩ = some (I tt) := cell_of_row w3 _ 3 _ _ _ r3
  have p4 : w3.cell? ⟨g, 4, none⟩ = some (.slice A n cap) := cell_of_row w3 _ 4 _ _ _ r3
  have R3 := Lib.hid r3
  clear hw3 hs3 r3 hb3 hb2 hg f0 f1 f2 f3 f4 hx1 hy1 ba sa
  go_wp2_with fail
  refine (C1 w3 hx3).mono ?_
  rintro e w4 ⟨rfl, hb4⟩
  have hy4 := ints_call hb4 hy3
  have hx4 := boos_call hb4 hx3
  have hB4 := hB3.trans (hb4.mono hB3.size)
  have R4 := Lib.hid ((hb4.block g hgs).trans R3.out)
  have hgs4 : g < w4.heap.size := by have := hb4.size; omega
  clear p0 p1 p2 p3 p4 hb4 hx3 hy3 hB3 R3 hgs C1
  go_wp2_with fail
  refine (C2 w4 hy4).mono ?_
  rintro e w5 ⟨rfl, hb5⟩
  have hy5 := ints_call hb5 hy4
  have hx5 := boos_call hb5 hx4
  have hB5 := hB4.trans (hb5.mono hB4.size)
  have R5 := Lib.hid ((hb5.block g hgs4).trans R4.out)
  have hgs5 : g < w5.heap.size := by have := hb5.size; omega
  clear hb5 hx4 hy4 hB4 R4 hgs4 C2
  go_wp2_with fail
  refine (C3 w5).mono ?_
  rintro e w6 ⟨rfl, hww⟩
  rw [hww]
  clear hww
  go_wp2_with fail
  refine (C4 _ _ _ (ints_new w5 [E1, E2] _)).mono ?_
  rintro e w7 ⟨rfl, hww⟩
  have hb7 : Below w5.heap.size w5 w7 := by rw [hww]; exact (Below.refl _ _).alloc (Nat.le_refl _) _
  have hy7 := ints_call hb7 hy5
  have hx7 := boos_call hb7 hx5
  have hB7 := hB5.trans (hb7.mono hB5.size)
  have R7 := Lib.hid ((hb7.block g hgs5).trans R5.out)
  have hgs7 : g < w7.heap.size := by have := hb7.size; omega
  clear hww C3 C4 hb7 hx5 hy5 hB5 R5 hgs5
  by_cases hE0 : E = 0
  · have HZ := Lib.hid (show rolE W H fr tt n wall ms = 0 by rw [← HEE.out]; exact hE0)
    have hne : (E != 0) = false := by rw [hE0]; rfl
    have hok := rolE_ok HZ.out
    obtain ⟨hmv, hm200⟩ := movB_mv hok.2
    obtain ⟨W', H', f, t, rfl, rfl, rfl, rfl, h1, h2, h3, h4, hn, hn9, hf, ht, hwf, hwt⟩ := maz_nat hok.1
    have HV := Lib.hid (show rolV W' H' f t n wall ms = (wlk W' H' wall f ms : Nat) by rw [rolV, if_pos HZ.out]; rfl)
    have HN := Lib.hid hn
    have r7 := R7.out
    have p2 : w7.cell? ⟨g, 2, none⟩ = some (I f) := cell_of_row w7 _ 2 _ _ _ r7
    have HM := Lib.hid hmv
    have HWF := Lib.hid hwf
    clear r7 hmv hok hE0 hwf hwt HEE hn
    go_wp2_with fail
    go_loopw [8, 28] (fun x i wr => ∃ k c : Nat, k ≤ ms.length ∧ i = I k ∧ x = I c ∧ c < n ∧ Hid (c = wlk W' H' wall f (ms.take k)) ∧ Below w7.heap.size w7 wr) (fun _ i _ => ms.length - (intOf i).toNat)
    case atStart => exact ⟨0, f, Nat.zero_le _, rfl, rfl, hf, Lib.hid rfl, Below.refl _ _⟩
    case round =>
      obtain ⟨k, c, hk, rfl, rfl, hc, HC, hBr⟩ := hrel
      by_cases hlt : k < ms.length
      · have hyr := ints_call hBr hy7
        have hxr := boos_call hBr hx7
        obtain ⟨ad, rfl, hbA, hcA⟩ := hyr.at_ hlt
        have hs := HM.out.nth hlt
        have HS := Lib.hid (wlk_take W' H' wall f ms k hlt)
        obtain ⟨s, hsn⟩ : ∃ s : Nat, nth ms k = s := ⟨(nth ms k).toNat, by omega⟩
        rw [hsn] at hcA hs
        have HSN := Lib.hid hsn
        have r7 := (hBr.block g hgs7).trans R7.out
        have p0 : wr.cell? ⟨g, 0, none⟩ = some (I W') := cell_of_row wr _ 0 _ _ _ r7
        have p1 : wr.cell? ⟨g, 1, none⟩ = some (I H') := cell_of_row wr _ 1 _ _ _ r7
        have p2 : wr.cell? ⟨g, 2, none⟩ = some (I f) := cell_of_row wr _ 2 _ _ _ r7
        have p3 : wr.cell? ⟨g, 3, none⟩ = some (I t) := cell_of_row wr _ 3 _ _ _ r7
        have p4 : wr.cell? ⟨g, 4, none⟩ = some (.slice A n cap) := cell_of_row wr _ 4 _ _ _ r7
        have hcw : wall c = false := by
          rw [HC.out]
          exact (wlk_in h1 (by rw [← HN.out]; exact hf) HWF.out _ (HM.out.take k)).2
        have hcall := roll_any W' H' c s n f t A cap wall wr h1 h2 h4 HN.out hn9 hc (by omega) hxr
        have hin := rol_in h1 (show s ≤ 3 by omega) (show c < W' * H' by rw [← HN.out]; exact hc) hcw
        clear r7 hsn hyr hxr hcw
        go_wp2_with fail
        refine hcall.mono ?_
        rintro e w9 ⟨rfl, hb9⟩
        clear hcall p0 p1 p2 p3 p4 hcA
        go_wp2_with fail
        go_roundw
        case rel => exact ⟨k + 1, rolF W' H' wall c s, by omega, by go_num, rfl, by rw [HN.out]; exact hin.1, Lib.hid (by rw [HS.out, ← HC.out, HSN.out]; rfl), hBr.trans (hb9.mono hBr.size)⟩
        case measure => simp [intOf]; omega
      · obtain rfl : k = ms.length := by omega
        have HD := HC.out
        rw [List.take_length] at HD
        have HD := Lib.hid HD
        clear HC p2
        go_wp2
        go_ret2
        exact ⟨by rw [HV.out, HZ.out, ← HD.out]; rfl, hB7.trans (hBr.mono hB7.size)⟩
  · have HNE := Lib.hid (show rolE W H fr tt n wall ms ≠ 0 by rw [← HEE.out]; exact hE0)
    have HV := Lib.hid (show rolV W H fr tt n wall ms = 0 by rw [rolV, if_neg HNE.out])
    have hne : (E != 0) = true := by simpa using hE0
    go_wp2
    go_ret2
    exact ⟨by rw [HV.out, ← HEE.out]; rfl, hB7⟩
end Go.Proofs.Ytfjincdlenneaaa
