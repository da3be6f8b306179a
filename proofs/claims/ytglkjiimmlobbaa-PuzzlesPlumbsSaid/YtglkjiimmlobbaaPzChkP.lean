/-
  CONTRACTS: cells, has, isValid, pipesOf, check, canTurn of the pipes.
-/
import Derived.Test.YtglkjiimmlobbaaPzWat
namespace Go.Proofs.Ytglkjiimmlobbaa
open Go.RowKit Go.Shelf
abbrev gridI (W H fr tt : Int) : Value := .agg #[I W, I H, I fr, I tt]
abbrev pipesI (W H fr tt : Int) (A : Option Addr) (n cap : Nat) : Value := .agg #[I W, I H, I fr, I tt, .slice A n cap]
theorem cells_any (W H fr tt : Int) (w : World) (h1 : 0 ≤ W) (h2 : W ≤ 9) (h3 : 0 ≤ H) (h4 : H ≤ 9) :
    Calls Try.prog 97 #[gridI W H fr tt] w fun e w' => e = .returned (I (W * H)) ∧ Below w.heap.size w w' := by
  obtain ⟨w1, hw1, hs1, y0, hb1⟩ := one_box w (.cells #[I W, I H, I fr, I tt] 101)
  have b0 : w1.cell? ⟨w.heap.size, 0, none⟩ = some (I W) := cell_of_row w1 _ 0 _ _ _ y0
  have b1 : w1.cell? ⟨w.heap.size, 1, none⟩ = some (I H) := cell_of_row w1 _ 1 _ _ _ y0
  have k1 : 0 ≤ W * H := Int.mul_nonneg h1 h3
  have k2 : W * H ≤ 81 := by
    have := Int.mul_le_mul h2 h4 h3 (by decide)
    omega
  clear y0 hs1
  go_enter Try.func97, Try.ntmps97
  go_upto_region 1 with fail
  rw [← hw1]
  clear hw1
  have ew : IntKind.i64.wrap (W * H) = W * H := (IntWalk.i64_left _).trans (IntWalk.wrap64_in _ ⟨by omega, by omega⟩)
  go_wp2
  go_ret
  exact ⟨rfl, hb1⟩
theorem has_any (W H fr tt c : Int) (w : World) (h1 : 0 ≤ W) (h2 : W ≤ 9) (h3 : 0 ≤ H) (h4 : H ≤ 9) :
    Calls Try.prog 156 #[gridI W H fr tt, I c] w fun e w' => e = .returned (.bool (wi c 0 (W * H - 1))) ∧ Below w.heap.size w w' := by
  obtain ⟨w1, hw1, hs1, y0, hb1⟩ := one_box w (.cells #[I W, I H, I fr, I tt] 101)
  have b0 : w1.cell? ⟨w.heap.size, 0, none⟩ = some (I W) := cell_of_row w1 _ 0 _ _ _ y0
  have b1 : w1.cell? ⟨w.heap.size, 1, none⟩ = some (I H) := cell_of_row w1 _ 1 _ _ _ y0
  have b2 : w1.cell? ⟨w.heap.size, 2, none⟩ = some (I fr) := cell_of_row w1 _ 2 _ _ _ y0
  have b3 : w1.cell? ⟨w.heap.size, 3, none⟩ = some (I tt) := cell_of_row w1 _ 3 _ _ _ y0
  have k1 : 0 ≤ W * H := Int.mul_nonneg h1 h3
  have k2 : W * H ≤ 81 := by
    have := Int.mul_le_mul h2 h4 h3 (by decide)
    omega
  clear y0 hs1
  go_enter Try.func156, Try.ntmps156
  go_upto_region 1 with fail
  rw [← hw1]
  clear hw1
  go_wp2_with fail
  refine (cells_any W H fr tt w1 h1 h2 h3 h4).mono ?_
  rintro e w2 ⟨rfl, hb2⟩
  clear b0 b1 b2 b3
  obtain ⟨N, hN⟩ : ∃ N, N = W * H := ⟨_, rfl⟩
  rw [← hN] at k1 k2
  rw [← hN]
  have HN := Lib.hid hN
  clear hN
  have ew : IntKind.i64.wrap (N - 1) = N - 1 := (IntWalk.i64_left _).trans (IntWalk.wrap64_in _ ⟨by omega, by omega⟩)
  go_wp2_with fail
  refine (within_any _ _ _ _).mono ?_
  rintro e w3 ⟨rfl, rfl⟩
  go_wp2
  go_ret
  exact ⟨by rw [← HN.out]; rfl, hb1.trans (hb2.mono hb1.size)⟩
/-- a grid of at most nine cells, both ends among them -/
def gridB (W H fr tt : Int) : Bool := wi W 1 9 && (wi H 1 9 && (decide (W * H ≤ 9) && (wi fr 0 (W * H - 1) && wi tt 0 (W * H - 1))))
set_option maxHeartbeats 1000000 in
theorem gridValid_any (W H fr tt : Int) (w : World) :
    Calls Try.prog 134 #[gridI W H fr tt, I 9] w fun e w' => e = .returned (.bool (gridB W H fr tt)) ∧ Below w.heap.size w w' := by
  obtain ⟨w1, hw1, hs1, y0, hb1⟩ := one_box w (.cells #[I W, I H, I fr, I tt] 101)
  have b0 : w1.cell? ⟨w.heap.size, 0, none⟩ = some (I W) := cell_of_row w1 _ 0 _ _ _ y0
  have b1 : w1.cell? ⟨w.heap.size, 1, none⟩ = some (I H) := cell_of_row w1 _ 1 _ _ _ y0
  have b2 : w1.cell? ⟨w.heap.size, 2, none⟩ = some (I fr) := cell_of_row w1 _ 2 _ _ _ y0
  have b3 : w1.cell? ⟨w.heap.size, 3, none⟩ = some (I tt) := cell_of_row w1 _ 3 _ _ _ y0
  go_enter Try.func134, Try.ntmps134
  go_upto_region 1 with fail
  rw [← hw1]
  have Y0 := Lib.hid y0
  clear hw1 y0
  go_wp2_with fail
  refine (within_any _ _ _ _).mono ?_
  rintro e w3 ⟨rfl, hww⟩
  rw [← hww]
  clear hww w3
  cases q1 : wi W 1 9
  · have HG := Lib.hid (show gridB W H fr tt = false by rw [gridB, q1]; rfl)
    clear q1
    go_wp2
    go_ret
    exact ⟨ret_bool HG.out.symm, hb1⟩
  have HG := Lib.hid (show gridB W H fr tt = (wi H 1 9 && (decide (W * H ≤ 9) && (wi fr 0 (W * H - 1) && wi tt 0 (W * H - 1)))) by rw [gridB, q1]; rfl)
  have r1 : 1 ≤ W ∧ W ≤ 9 := by simpa [wi] using q1
  have r1a := r1.1
  have r1b := r1.2
  clear q1 r1
  go_wp2_with fail
  refine (within_any _ _ _ _).mono ?_
  rintro e w3 ⟨rfl, hww⟩
  rw [← hww]
  clear hww w3
  cases q2 : wi H 1 9
  · have HG := Lib.hid (show gridB W H fr tt = false by rw [HG.out, q2]; rfl)
    clear q2
    go_wp2
    go_ret
    exact ⟨ret_bool HG.out.symm, hb1⟩
  have HG := Lib.hid (show gridB W H fr tt = (decide (W * H ≤ 9) && (wi fr 0 (W * H - 1) && wi tt 0 (W * H - 1))) by rw [HG.out, q2]; rfl)
  have r2 : 1 ≤ H ∧ H ≤ 9 := by simpa [wi] using q2
  have r2a := r2.1
  have r2b := r2.2
  clear q2 r2
  go_wp2_with fail
  refine (cells_any W H fr tt w1 (by omega) (by omega) (by omega) (by omega)).mono ?_
  rintro e w3 ⟨rfl, hb3⟩
  have y0 := (hb3.block _ (by omega)).trans Y0.out
  have b0 : w3.cell? ⟨w.heap.size, 0, none⟩ = some (I W) := cell_of_row w3 _ 0 _ _ _ y0
  have b1 : w3.cell? ⟨w.heap.size, 1, none⟩ = some (I H) := cell_of_row w3 _ 1 _ _ _ y0
  have b2 : w3.cell? ⟨w.heap.size, 2, none⟩ = some (I fr) := cell_of_row w3 _ 2 _ _ _ y0
  have b3 : w3.cell? ⟨w.heap.size, 3, none⟩ = some (I tt) := cell_of_row w3 _ 3 _ _ _ y0
  have hB3 := hb1.trans (hb3.mono hb1.size)
  have hs3 : w.heap.size < w3.heap.size := by have := hb3.size; omega
  have Y3 := Lib.hid y0
  clear y0 Y0 hb3 hb1
  by_cases q3 : W * H ≤ 9
  · have HG := Lib.hid (show gridB W H fr tt = (wi fr 0 (W * H - 1) && wi tt 0 (W * H - 1)) by rw [HG.out, decide_eq_true q3]; rfl)
    have c1 := has_any W H fr tt fr
    have c2 := has_any W H fr tt tt
    go_wp2_with fail
    refine (c1 w3 (by omega) (by omega) (by omega) (by omega)).mono ?_
    rintro e w4 ⟨rfl, hb4⟩
    have y0 := (hb4.block _ hs3).trans Y3.out
    have b0 : w4.cell? ⟨w.heap.size, 0, none⟩ = some (I W) := cell_of_row w4 _ 0 _ _ _ y0
    have b1 : w4.cell? ⟨w.heap.size, 1, none⟩ = some (I H) := cell_of_row w4 _ 1 _ _ _ y0
    have b2 : w4.cell? ⟨w.heap.size, 2, none⟩ = some (I fr) := cell_of_row w4 _ 2 _ _ _ y0
    have b3 : w4.cell? ⟨w.heap.size, 3, none⟩ = some (I tt) := cell_of_row w4 _ 3 _ _ _ y0
    have hB4 := hB3.trans (hb4.mono hB3.size)
    clear y0 Y3 hb4 hB3
    cases q4 : wi fr 0 (W * H - 1)
    · have HG := Lib.hid (show gridB W H fr tt = false by rw [HG.out, q4]; rfl)
      clear q4
      go_wp2
      go_ret
      exact ⟨ret_bool HG.out.symm, hB4⟩
    have HG := Lib.hid (show gridB W H fr tt = wi tt 0 (W * H - 1) by rw [HG.out, q4]; rfl)
    clear q4
    go_wp2_with fail
    refine (c2 w4 (by omega) (by omega) (by omega) (by omega)).mono ?_
    rintro e w5 ⟨rfl, hb5⟩
    clear b0 b1 b2 b3 c1 c2
    go_wp2
    go_ret
    exact ⟨ret_bool HG.out.symm, hB4.trans (hb5.mono hB4.size)⟩
  · have HG := Lib.hid (show gridB W H fr tt = false by rw [HG.out, decide_eq_false q3]; rfl)
    have q4 : decide (W * H ≤ 9) = false := decide_eq_false q3
    go_wp2
    go_ret
    exact ⟨ret_bool HG.out.symm, hB3⟩
end Go.Proofs.Ytglkjiimmlobbaa
