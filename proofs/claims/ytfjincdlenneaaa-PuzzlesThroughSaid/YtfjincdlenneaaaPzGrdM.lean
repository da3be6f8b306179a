/-
  CONTRACTS: the grid of a maze: next, cells, has, isValid, with at most 64 cells. (Written out of PzGrd, PzChkP.)
-/
import Derived.Test.YtfjincdlenneaaaPzGrd
import Derived.Test.YtfjincdlenneaaaPzWei
namespace Go.Proofs.Ytfjincdlenneaaa
open Go.RowKit Go.Shelf
abbrev gridJ (W H fr tt : Int) : Value := .agg #[I W, I H, I fr, I tt]
set_option maxHeartbeats 1000000 in
theorem nextM_any (W H c s : Nat) (fr tt : Int) (w : World) (hW : 1 ≤ W) (hW9 : W ≤ 64) (hH : H ≤ 64) (hc : c ≤ 64) (hs : s ≤ 3) :
    Calls Try.prog 140 #[gridV W H fr tt, I c, I s] w fun e w' => ∃ v : Int, e = .returned (.tuple #[I v, .bool (nxO W H c s).isSome]) ∧ (∀ k, nxO W H c s = some k → v = (k : Nat)) ∧ Below w.heap.size w w' := by
  obtain ⟨w1, hw1, hs1, y0, hb1⟩ := one_box w (.cells #[I W, I H, I fr, I tt] 101)
  have b0 : w1.cell? ⟨w.heap.size, 0, none⟩ = some (I W) := cell_of_row w1 _ 0 _ _ _ y0
  have b1 : w1.cell? ⟨w.heap.size, 1, none⟩ = some (I H) := cell_of_row w1 _ 1 _ _ _ y0
  clear y0 hs1
  have hn1 : W ≠ 0 := by omega
  have hn2 : ¬ (W : Int) = 0 := by omega
  have hn3 : ((W : Int) == 0) = false := by simp; exact hn1
  obtain ⟨q, hq⟩ : ∃ q, q = c / W := ⟨_, rfl⟩
  obtain ⟨r, hr⟩ : ∃ r, r = c % W := ⟨_, rfl⟩
  have e1 : (c : Int) / (W : Int) = (q : Int) := by rw [hq]; rfl
  have e2 : (c : Int) % (W : Int) = (r : Int) := by rw [hr]; rfl
  have hq9 : q ≤ 64 := by rw [hq]; exact Nat.le_trans (Nat.div_le_self _ _) hc
  have hr9 : r ≤ 64 := by rw [hr]; exact Nat.le_trans (Nat.mod_le _ _) hc
  have hqW : 0 < q → W ≤ c := by
    intro h
    rw [hq] at h
    rcases Nat.lt_or_ge c W with h1 | h1
    · rw [Nat.div_eq_of_lt h1] at h; omega
    · exact h1
  have hrW : 0 < r → 1 ≤ c := by
    intro h
    rcases Nat.eq_zero_or_pos c with h1 | h1
    · rw [hr, h1, Nat.zero_mod] at h; omega
    · exact h1
  have HQ := Lib.hid hqW
  have HR := Lib.hid hrW
  have HX := Lib.hid (show nxO W H c s = if s = 0 then (if 0 < q then some (c - W) else none) else if s = 1 then (if r + 1 < W then some (c + 1) else none) else if s = 2 then (if q + 1 < H then some (c + W) else none) else (if 0 < r then some (c - 1) else none) by rw [hq, hr]; rfl)
  clear hq hr hqW hrW
  have hs4 : s = 0 ∨ s = 1 ∨ s = 2 ∨ s = 3 := by omega
  rcases hs4 with rfl | rfl | rfl | rfl
  · have HX' := Lib.hid (show nxO W H c 0 = if 0 < q then some (c - W) else none from HX.out.trans rfl)
    clear HX
    go_enter Try.func140, Try.ntmps140
    go_upto_region 1 with fail
    rw [← hw1]
    clear hw1
    go_quiet (fail)
    go_wp2
    go_ret2
    refine ⟨(c : Int) - W, by rw [HX'.out, isSome_if]; rfl, fun k hk => ?_, below_drewN hb1 _⟩
    rw [HX'.out] at hk
    by_cases h : 0 < q
    · rw [if_pos h] at hk
      injection hk with hk
      have a1 := HQ.out
      have a2 := HR.out
      omega
    · rw [if_neg h] at hk; cases hk
  · have HX' := Lib.hid (show nxO W H c 1 = if r + 1 < W then some (c + 1) else none from HX.out.trans rfl)
    clear HX
    go_enter Try.func140, Try.ntmps140
    go_upto_region 1 with fail
    rw [← hw1]
    clear hw1
    go_quiet (fail)
    go_wp2
    go_quiet (fail)
    go_wp2
    go_ret2
    refine ⟨(c : Int) + 1, by rw [HX'.out, isSome_if, show decide (r + 1 < W) = decide ((r : Int) < (W : Int) - 1) from decide_eq_decide.2 (by omega)]; rfl, fun k hk => ?_, below_drewN (below_drewN hb1 _) _⟩
    rw [HX'.out] at hk
    by_cases h : r + 1 < W
    · rw [if_pos h] at hk
      injection hk with hk
      have a1 := HQ.out
      have a2 := HR.out
      omega
    · rw [if_neg h] at hk; cases hk
  · have HX' := Lib.hid (show nxO W H c 2 = if q + 1 < H then some (c + W) else none from HX.out.trans rfl)
    clear HX
    go_enter Try.func140, Try.ntmps140
    go_upto_region 1 with fail
    rw [← hw1]
    clear hw1
    go_quiet (fail)
    go_wp2
    go_quiet (fail)
    go_wp2
    go_ret2
    refine ⟨(c : Int) + W, by rw [HX'.out, isSome_if, show decide (q + 1 < H) = decide ((q : Int) < (H : Int) - 1) from decide_eq_decide.2 (by omega)]; rfl, fun k hk => ?_, below_drewN (below_drewN hb1 _) _⟩
    rw [HX'.out] at hk
    by_cases h : q + 1 < H
    · rw [if_pos h] at hk
      injection hk with hk
      have a1 := HQ.out
      have a2 := HR.out
      omega
    · rw [if_neg h] at hk; cases hk
  · have HX' := Lib.hid (show nxO W H c 3 = if 0 < r then some (c - 1) else none from HX.out.trans rfl)
    clear HX
    go_enter Try.func140, Try.ntmps140
    go_upto_region 1 with fail
    rw [← hw1]
    clear hw1
    go_quiet (fail)
    go_wp2
    go_ret2
    refine ⟨(c : Int) - 1, by rw [HX'.out, isSome_if]; rfl, fun k hk => ?_, below_drewN hb1 _⟩
    rw [HX'.out] at hk
    by_cases h : 0 < r
    · rw [if_pos h] at hk
      injection hk with hk
      have a1 := HQ.out
      have a2 := HR.out
      omega
    · rw [if_neg h] at hk; cases hk
theorem cellsM_any (W H fr tt : Int) (w : World) (h1 : 0 ≤ W) (h2 : W ≤ 64) (h3 : 0 ≤ H) (h4 : H ≤ 64) :
    Calls Try.prog 97 #[gridJ W H fr tt] w fun e w' => e = .returned (I (W * H)) ∧ Below w.heap.size w w' := by
  obtain ⟨w1, hw1, hs1, y0, hb1⟩ := one_box w (.cells #[I W, I H, I fr, I tt] 101)
  have b0 : w1.cell? ⟨w.heap.size, 0, none⟩ = some (I W) := cell_of_row w1 _ 0 _ _ _ y0
  have b1 : w1.cell? ⟨w.heap.size, 1, none⟩ = some (I H) := cell_of_row w1 _ 1 _ _ _ y0
  have k1 : 0 ≤ W * H := Int.mul_nonneg h1 h3
  have k2 : W * H ≤ 4096 := by
    have := Int.mul_le_mul h2 h4 h3 (by decide)
    omega
  clear y0 hs1
  go_enter Try.func97, Try.ntmps97
  go_upto_region 1 with fail
  rw [← hw1]
  clear hw1
  have ew : IntKind.i64.wrap (W * H) = W * H := (IntWalk.i64_left _).trans (IntWalk.wrap64_in _ ⟨by omega, by omega⟩)
  go_wp2
  go_ret
  exact ⟨rfl, hb1⟩
theorem hasM_any (W H fr tt c : Int) (w : World) (h1 : 0 ≤ W) (h2 : W ≤ 64) (h3 : 0 ≤ H) (h4 : H ≤ 64) :
    Calls Try.prog 156 #[gridJ W H fr tt, I c] w fun e w' => e = .returned (.bool (wi c 0 (W * H - 1))) ∧ Below w.heap.size w w' := by
  obtain ⟨w1, hw1, hs1, y0, hb1⟩ := one_box w (.cells #[I W, I H, I fr, I tt] 101)
  have b0 : w1.cell? ⟨w.heap.size, 0, none⟩ = some (I W) := cell_of_row w1 _ 0 _ _ _ y0
  have b1 : w1.cell? ⟨w.heap.size, 1, none⟩ = some (I H) := cell_of_row w1 _ 1 _ _ _ y0
  have b2 : w1.cell? ⟨w.heap.size, 2, none⟩ = some (I fr) := cell_of_row w1 _ 2 _ _ _ y0
  have b3 : w1.cell? ⟨w.heap.size, 3, none⟩ = some (I tt) := cell_of_row w1 _ 3 _ _ _ y0
  have k1 : 0 ≤ W * H := Int.mul_nonneg h1 h3
  have k2 : W * H ≤ 4096 := by
    have := Int.mul_le_mul h2 h4 h3 (by decide)
    omega
  clear y0 hs1
  go_enter Try.func156, Try.ntmps156
  go_upto_region 1 with fail
  rw [← hw1]
  clear hw1
  go_wp2_with fail
  refine (cellsM_any W H fr tt w1 h1 h2 h3 h4).mono ?_
  rintro e w2 ⟨rfl, hb2⟩
  clear b0 b1 b2 b3
  obtain ⟨N, hN⟩ : ∃ N, N = W * H := ⟨_, rfl⟩
  rw [← hN] at k1 k2
  rw [← hN]
  have HN := Lib.hid hN
  clear hN
  have ew : IntKind.i64.wrap (N - 1) = N - 1 := (IntWalk.i64_left _).trans (IntWalk.wrap64_in _ ⟨by omega, by omega⟩)
  go_wp2_with fail
  refine (within_any _ _ _ _).mono ?_
  rintro e w3 ⟨rfl, rfl⟩
  go_wp2
  go_ret
  exact ⟨by rw [← HN.out]; rfl, hb1.trans (hb2.mono hb1.size)⟩
/-- a grid of at most 64 cells, both ends among them -/
def gridM (W H fr tt : Int) : Bool := wi W 1 64 && (wi H 1 64 && (decide (W * H ≤ 64) && (wi fr 0 (W * H - 1) && wi tt 0 (W * H - 1))))
set_option maxHeartbeats 1000000 in
theorem gridValidM_any (W H fr tt : Int) (w : World) :
    Calls Try.prog 134 #[gridJ W H fr tt, I 64] w fun e w' => e = .returned (.bool (gridM W H fr tt)) ∧ Below w.heap.size w w' := by
  obtain ⟨w1, hw1, hs1, y0, hb1⟩ := one_box w (.cells #[I W, I H, I fr, I tt] 101)
  have b0 : w1.cell? ⟨w.heap.size, 0, none⟩ = some (I W) := cell_of_row w1 _ 0 _ _ _ y0
  have b1 : w1.cell? ⟨w.heap.size, 1, none⟩ = some (I H) := cell_of_row w1 _ 1 _ _ _ y0
  have b2 : w1.cell? ⟨w.heap.size, 2, none⟩ = some (I fr) := cell_of_row w1 _ 2 _ _ _ y0
  have b3 : w1.cell? ⟨w.heap.size, 3, none⟩ = some (I tt) := cell_of_row w1 _ 3 _ _ _ y0
  go_enter Try.func134, Try.ntmps134
  go_upto_region 1 with fail
  rw [← hw1]
  have Y0 := Lib.hid y0
  clear hw1 y0
  go_wp2_with fail
  refine (within_any _ _ _ _).mono ?_
  rintro e w3 ⟨rfl, hww⟩
  rw [← hww]
  clear hww w3
  cases q1 : wi W 1 64
  · have HG := Lib.hid (show gridM W H fr tt = false by rw [gridM, q1]; rfl)
    clear q1
    go_wp2
    go_ret
    exact ⟨ret_bool HG.out.symm, hb1⟩
  have HG := Lib.hid (show gridM W H fr tt = (wi H 1 64 && (decide (W * H ≤ 64) && (wi fr 0 (W * H - 1) && wi tt 0 (W * H - 1)))) by rw [gridM, q1]; rfl)
  have r1 : 1 ≤ W ∧ W ≤ 64 := by simpa [wi] using q1
  have r1a := r1.1
  have r1b := r1.2
  clear q1 r1
  go_wp2_with fail
  refine (within_any _ _ _ _).mono ?_
  rintro e w3 ⟨rfl, hww⟩
  rw [← hww]
  clear hww w3
  cases q2 : wi H 1 64
  · have HG := Lib.hid (show gridM W H fr tt = false by rw [HG.out, q2]; rfl)
    clear q2
    go_wp2
    go_ret
    exact ⟨ret_bool HG.out.symm, hb1⟩
  have HG := Lib.hid (show gridM W H fr tt = (decide (W * H ≤ 64) && (wi fr 0 (W * H - 1) && wi tt 0 (W * H - 1))) by rw [HG.out, q2]; rfl)
  have r2 : 1 ≤ H ∧ H ≤ 64 := by simpa [wi] using q2
  have r2a := r2.1
  have r2b := r2.2
  clear q2 r2
  go_wp2_with fail
  refine (cellsM_any W H fr tt w1 (by omega) (by omega) (by omega) (by omega)).mono ?_
  rintro e w3 ⟨rfl, hb3⟩
  have y0 := (hb3.block _ (by omega)).trans Y0.out
  have b0 : w3.cell? ⟨w.heap.size, 0, none⟩ = some (I W) := cell_of_row w3 _ 0 _ _ _ y0
  have b1 : w3.cell? ⟨w.heap.size, 1, none⟩ = some (I H) := cell_of_row w3 _ 1 _ _ _ y0
  have b2 : w3.cell? ⟨w.heap.size, 2, none⟩ = some (I fr) := cell_of_row w3 _ 2 _ _ _ y0
  have b3 : w3.cell? ⟨w.heap.size, 3, none⟩ = some (I tt) := cell_of_row w3 _ 3 _ _ _ y0
  have hB3 := hb1.trans (hb3.mono hb1.size)
  have hs3 : w.heap.size < w3.heap.size := by have := hb3.size; omega
  have Y3 := Lib.hid y0
  clear y0 Y0 hb3 hb1
  by_cases q3 : W * H ≤ 64
  · have HG := Lib.hid (show gridM W H fr tt = (wi fr 0 (W * H - 1) && wi tt 0 (W * H - 1)) by rw [HG.out, decide_eq_true q3]; rfl)
    have c1 := hasM_any W H fr tt fr
    have c2 := hasM_any W H fr tt tt
    go_wp2_with fail
    refine (c1 w3 (by omega) (by omega) (by omega) (by omega)).mono ?_
    rintro e w4 ⟨rfl, hb4⟩
    have y0 := (hb4.block _ hs3).trans Y3.out
    have b0 : w4.cell? ⟨w.heap.size, 0, none⟩ = some (I W) := cell_of_row w4 _ 0 _ _ _ y0
    have b1 : w4.cell? ⟨w.heap.size, 1, none⟩ = some (I H) := cell_of_row w4 _ 1 _ _ _ y0
    have b2 : w4.cell? ⟨w.heap.size, 2, none⟩ = some (I fr) := cell_of_row w4 _ 2 _ _ _ y0
    have b3 : w4.cell? ⟨w.heap.size, 3, none⟩ = some (I tt) := cell_of_row w4 _ 3 _ _ _ y0
    have hB4 := hB3.trans (hb4.mono hB3.size)
    clear y0 Y3 hb4 hB3
    cases q4 : wi fr 0 (W * H - 1)
    · have HG := Lib.hid (show gridM W H fr tt = false by rw [HG.out, q4]; rfl)
      clear q4
      go_wp2
      go_ret
      exact ⟨ret_bool HG.out.symm, hB4⟩
    have HG := Lib.hid (show gridM W H fr tt = wi tt 0 (W * H - 1) by rw [HG.out, q4]; rfl)
    clear q4
    go_wp2_with fail
    refine (c2 w4 (by omega) (by omega) (by omega) (by omega)).mono ?_
    rintro e w5 ⟨rfl, hb5⟩
    clear b0 b1 b2 b3 c1 c2
    go_wp2
    go_ret
    exact ⟨ret_bool HG.out.symm, hB4.trans (hb5.mono hB4.size)⟩
  · have HG := Lib.hid (show gridM W H fr tt = false by rw [HG.out, decide_eq_false q3]; rfl)
    have q4 : decide (W * H ≤ 64) = false := decide_eq_false q3
    go_wp2
    go_ret
    exact ⟨ret_bool HG.out.symm, hB3⟩
end Go.Proofs.Ytfjincdlenneaaa
