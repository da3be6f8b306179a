/-
  CONTRACT: the law PuzzlesRolls.
-/
import Derived.Test.YtfjincdlenneaaaPzRMazT
import Derived.Test.YtfjincdlenneaaaPzSame
import Derived.Test.YtfjincdlenneaaaPzWorks
namespace Go.Proofs.Ytfjincdlenneaaa
open Go.RowKit Go.Shelf
theorem escL_len (W H fr tt : Int) (n : Nat) (wall : Nat → Bool) : (escL W H fr tt n wall).length ≤ 64 := by
  rw [escL, escN]
  cases hok : mazB W H fr tt n wall
  · exact Nat.zero_le _
  · obtain ⟨W', H', f, t, rfl, rfl, rfl, rfl, h1, h2, h3, h4, hn, hn9, hf, ht, hwf, hwt⟩ := maz_nat hok
    show ((escO W' H' wall f t).getD []).length ≤ 64
    cases he : escO W' H' wall f t with
    | none => exact Nat.zero_le _
    | some p =>
      have := (esc_some he).few h1 (by rw [← hn]; exact hf) hwf
      show p.length ≤ 64
      omega
theorem trpL_len (W H fr tt : Int) (n : Nat) (wall : Nat → Bool) : (trpL W H fr tt n wall).length ≤ n := by
  rw [trpL]
  split
  · exact numsG_len _ _
  · exact Nat.zero_le _
set_option maxRecDepth 100000 in
set_option maxHeartbeats 4000000 in
theorem rolls_law (W H fr tt : Int) (A A2 : Option Addr) (n cap c2 : Nat) (wall : Nat → Bool) (ms : List Int) (w : World) (hx : BoosR w w.heap.size A wall n) (hln : n ≤ maxLen) (hy : IntsR w w.heap.size A2 ms) (hl : ms.length ≤ maxLen) :
    Calls Try.prog 8 #[mazA W H A n cap fr tt, .slice A2 ms.length c2] w fun e w' => e = .returned (.bool true) ∧ Below w.heap.size w w' := by
  obtain ⟨wa, ha, sa, ya, ba⟩ := one_box w (.cells #[I W, I H, .slice A n cap, I fr, I tt] 52)
  have cells : ∀ V, Below wa.heap.size wa V → V.cell? ⟨w.heap.size, 0, none⟩ = some (I W) ∧ V.cell? ⟨w.heap.size, 1, none⟩ = some (I H) ∧ V.cell? ⟨w.heap.size, 2, none⟩ = some (.slice A n cap) ∧ V.cell? ⟨w.heap.size, 3, none⟩ = some (I fr) ∧ V.cell? ⟨w.heap.size, 4, none⟩ = some (I tt) := fun V hV => by
    have y := (hV.block w.heap.size (by omega)).trans ya
    exact ⟨cell_of_row V _ 0 _ _ _ y, cell_of_row V _ 1 _ _ _ y, cell_of_row V _ 2 _ _ _ y, cell_of_row V _ 3 _ _ _ y, cell_of_row V _ 4 _ _ _ y⟩
  have HC := Lib.hid cells
  obtain ⟨f0, f1, f2, f3, f4⟩ := cells wa (Below.refl _ _)
  have hx1 := boos_call ba hx
  have hy1 := ints_call ba hy
  have hm1 : (escL W H fr tt n wall).length ≤ maxLen := Nat.le_trans (escL_len W H fr tt n wall) (by decide)
  have hm2 : (trpL W H fr tt n wall).length ≤ maxLen := Nat.le_trans (trpL_len W H fr tt n wall) hln
  have C1 := Roll_any W H fr tt A A2 n cap c2 wall ms wa hx1 hy1 hl
  have C2 := fun V h1 h2 => rRoll_any W H fr tt A A2 n cap c2 wall ms V h1 hln h2 hl
  have C3 := fun V h1 => Escape_any W H fr tt A n cap wall V h1
  have C4 := fun V h1 => rEscape_any W H fr tt A n cap wall V h1 hln
  have C5 := fun V h1 => Traps_any W H fr tt A n cap wall V h1
  have C6 := fun V h1 => rTraps_any W H fr tt A n cap wall V h1 hln
  generalize rolV W H fr tt n wall ms = r at *
  generalize rolE W H fr tt n wall ms = e1 at *
  generalize escL W H fr tt n wall = L at *
  generalize escE W H fr tt n wall = e2 at *
  generalize trpL W H fr tt n wall = M at *
  generalize trpE W H fr tt n wall = e3 at *
  have g0 : (r == r) = true := by simp
  have g1 : (e1 == e1) = true := by simp
  have g2 : (e2 == e2) = true := by simp
  have g3 : (e3 == e3) = true := by simp
  have k0 : (r != r) = false := by simp
  have k1 : (e1 != e1) = false := by simp
  have k2 : (e2 != e2) = false := by simp
  clear ya hx hy sa cells
  go_enter Try.func8, Try.ntmps8
  go_upto_region 1 with fail
  rw [← ha]
  clear ha
  go_wp2_with fail
  refine C1.mono ?_
  rintro e w1 ⟨rfl, hb1⟩
  obtain ⟨f0, f1, f2, f3, f4⟩ := HC.out w1 hb1
  have hx2 := boos_call hb1 hx1
  have hy2 := ints_call hb1 hy1
  have hW1 := hb1
  clear hb1 hy1 C1
  go_wp2_with fail
  refine (C2 _ hx2 hy2).mono ?_
  rintro e w2 ⟨rfl, hb2⟩
  have hW2 := hW1.trans (hb2.mono hW1.size)
  obtain ⟨f0, f1, f2, f3, f4⟩ := HC.out w2 hW2
  have hx3 := boos_call hb2 hx2
  clear hb2 hx2 hy2 C2 hW1
  go_wp2_with fail
  refine (C3 _ hx3).mono ?_
  rintro e w3 ⟨A3, c3, rfl, i3, hb3⟩
  have hW3 := hW2.trans (hb3.mono hW2.size)
  obtain ⟨f0, f1, f2, f3, f4⟩ := HC.out w3 hW3
  have hx4 := boos_call hb3 hx3
  clear hb3 hx3 C3 hW2
  go_wp2_with fail
  refine (C4 _ hx4).mono ?_
  rintro e w4 ⟨A4, c4, rfl, i4, hb4⟩
  have i3' := ints_call hb4 i3
  have hW4 := hW3.trans (hb4.mono hW3.size)
  have hx5 := boos_call hb4 hx4
  clear hb4 hx4 C4 hW3 i3
  go_wp2_with fail
  refine (sameInts_any A3 A4 c3 c4 L L w4 i3' i4 hm1 hm1).mono ?_
  rintro e w5 ⟨rfl, hb5⟩
  rw [decide_eq_true (rfl : L = L)]
  have hW5 := hW4.trans (hb5.mono hW4.size)
  obtain ⟨f0, f1, f2, f3, f4⟩ := HC.out w5 hW5
  have hx6 := boos_call hb5 hx5
  clear hb5 hx5 i3' i4 hW4
  go_wp2_with fail
  refine (C5 _ hx6).mono ?_
  rintro e w6 ⟨A5, c5, rfl, i5, hb6⟩
  have hW6 := hW5.trans (hb6.mono hW5.size)
  obtain ⟨f0, f1, f2, f3, f4⟩ := HC.out w6 hW6
  have hx7 := boos_call hb6 hx6
  clear hb6 hx6 C5 hW5
  go_wp2_with fail
  refine (C6 _ hx7).mono ?_
  rintro e w7 ⟨A6, c6, rfl, i6, hb7⟩
  have i5' := ints_call hb7 i5
  have hW7 := hW6.trans (hb7.mono hW6.size)
  clear hb7 hx7 C6 hW6 i5 f0 f1 f2 f3 f4
  go_wp2_with fail
  refine (sameInts_any A5 A6 c5 c6 M M w7 i5' i6 hm2 hm2).mono ?_
  rintro e w8 ⟨rfl, hb8⟩
  rw [decide_eq_true (rfl : M = M)]
  have hW8 := hW7.trans (hb8.mono hW7.size)
  clear hb8 i5' i6 hW7
  go_wp2_with fail
  refine (works_any w8).mono ?_
  rintro e w9 ⟨rfl, hb9⟩
  go_wp2
  go_ret
  exact ⟨rfl, ba.trans ((hW8.trans (hb9.mono hW8.size)).mono ba.size)⟩
end Go.Proofs.Ytfjincdlenneaaa
