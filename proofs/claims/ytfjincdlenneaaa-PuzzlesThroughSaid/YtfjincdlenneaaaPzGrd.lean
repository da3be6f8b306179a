/-
  CONTRACTS: the grid: next, cells, has, isValid.
-/
import Derived.Test.YtfjincdlenneaaaPzPip
import Derived.Test.YtfjincdlenneaaaPzWei
namespace Go.Proofs.Ytfjincdlenneaaa
open Go.RowKit Go.Shelf
/-- the cell at a side of a cell -/
def nxO (W H c s : Nat) : Option Nat :=
  if s = 0 then (if 0 < c / W then some (c - W) else none)
  else if s = 1 then (if c % W + 1 < W then some (c + 1) else none)
  else if s = 2 then (if c / W + 1 < H then some (c + W) else none)
  else (if 0 < c % W then some (c - 1) else none)
theorem isSome_if {p : Prop} [Decidable p] (a : Nat) : (if p then some a else none).isSome = decide p := by
  by_cases h : p <;> simp [h]
abbrev gridV (W H : Nat) (fr tt : Int) : Value := .agg #[I W, I H, I fr, I tt]

set_option maxHeartbeats 1000000 in
theorem next_any (W H c s : Nat) (fr tt : Int) (w : World) (hW : 1 ≤ W) (hW9 : W ≤ 9) (hH : H ≤ 9) (hc : c ≤ 9) (hs : s ≤ 3) :
    Calls Try.prog 140 #[gridV W H fr tt, I c, I s] w fun e w' => ∃ v : Int, e = .returned (.tuple #[I v, .bool (nxO W H c s).isSome]) ∧ (∀ k, nxO W H c s = some k → v = (k : Nat)) ∧ Below w.heap.size w w' := by
  obtain ⟨w1, hw1, hs1, y0, hb1⟩ := one_box w (.cells #[I W, I H, I fr, I tt] 101)
  have b0 : w1.cell? ⟨w.heap.size, 0, none⟩ = some (I W) := cell_of_row w1 _ 0 _ _ _ y0
  have b1 : w1.cell? ⟨w.heap.size, 1, none⟩ = some (I H) := cell_of_row w1 _ 1 _ _ _ y0
  clear y0 hs1
  have hn1 : W ≠ 0 := by omega
  have hn2 : ¬ (W : Int) = 0 := by omega
  have hn3 : ((W : Int) == 0) = false := by simp; exact hn1
  obtain ⟨q, hq⟩ : ∃ q, q = c / W := ⟨_, rfl⟩
  obtain ⟨r, hr⟩ : ∃ r, r = c % W := ⟨_, rfl⟩
  have e1 : (c : Int) / (W : Int) = (q : Int) := by rw [hq]; rfl
  have e2 : (c : Int) % (W : Int) = (r : Int) := by rw [hr]; rfl
  have hq9 : q ≤ 9 := by rw [hq]; exact Nat.le_trans (Nat.div_le_self _ _) hc
  have hr9 : r ≤ 9 := by rw [hr]; exact Nat.le_trans (Nat.mod_le _ _) hc
  have hqW : 0 < q → W ≤ c := by
    intro h
    rw [hq] at h
    rcases Nat.lt_or_ge c W with h1 | h1
    · rw [Nat.div_eq_of_lt h1] at h; omega
    · exact h1
  have hrW : 0 < r → 1 ≤ c := by
    intro h
    rcases Nat.eq_zero_or_pos c with h1 | h1
    · rw [hr, h1, Nat.zero_mod] at h; omega
    · exact h1
  have HQ := Lib.hid hqW
  have HR := Lib.hid hrW
  have HX := Lib.hid (show nxO W H c s = if s = 0 then (if 0 < q then some (c - W) else none) else if s = 1 then (if r + 1 < W then some (c + 1) else none) else if s = 2 then (if q + 1 < H then some (c + W) else none) else (if 0 < r then some (c - 1) else none) by rw [hq, hr]; rfl)
  clear hq hr hqW hrW
  have hs4 : s = 0 ∨ s = 1 ∨ s = 2 ∨ s = 3 := by omega
  rcases hs4 with rfl | rfl | rfl | rfl
  · have HX' := Lib.hid (show nxO W H c 0 = if 0 < q then some (c - W) else none from HX.out.trans rfl)
    clear HX
    go_enter Try.func140, Try.ntmps140
    go_upto_region 1 with fail
    rw [← hw1]
    clear hw1
    go_quiet (fail)
    go_wp2
    go_ret2
    refine ⟨(c : Int) - W, by rw [HX'.out, isSome_if]; rfl, fun k hk => ?_, below_drewN hb1 _⟩
    rw [HX'.out] at hk
    by_cases h : 0 < q
    · rw [if_pos h] at hk
      injection hk with hk
      have a1 := HQ.out
      have a2 := HR.out
      omega
    · rw [if_neg h] at hk; cases hk
  · have HX' := Lib.hid (show nxO W H c 1 = if r + 1 < W then some (c + 1) else none from HX.out.trans rfl)
    clear HX
    go_enter Try.func140, Try.ntmps140
    go_upto_region 1 with fail
    rw [← hw1]
    clear hw1
    go_quiet (fail)
    go_wp2
    go_quiet (fail)
    go_wp2
    go_ret2
    refine ⟨(c : Int) + 1, by rw [HX'.out, isSome_if, show decide (r + 1 < W) = decide ((r : Int) < (W : Int) - 1) from decide_eq_decide.2 (by omega)]; rfl, fun k hk => ?_, below_drewN (below_drewN hb1 _) _⟩
    rw [HX'.out] at hk
    by_cases h : r + 1 < W
    · rw [if_pos h] at hk
      injection hk with hk
      have a1 := HQ.out
      have a2 := HR.out
      omega
    · rw [if_neg h] at hk; cases hk
  · have HX' := Lib.hid (show nxO W H c 2 = if q + 1 < H then some (c + W) else none from HX.out.trans rfl)
    clear HX
    go_enter Try.func140, Try.ntmps140
    go_upto_region 1 with fail
    rw [← hw1]
    clear hw1
    go_quiet (fail)
    go_wp2
    go_quiet (fail)
    go_wp2
    go_ret2
    refine ⟨(c : Int) + W, by rw [HX'.out, isSome_if, show decide (q + 1 < H) = decide ((q : Int) < (H : Int) - 1) from decide_eq_decide.2 (by omega)]; rfl, fun k hk => ?_, below_drewN (below_drewN hb1 _) _⟩
    rw [HX'.out] at hk
    by_cases h : q + 1 < H
    · rw [if_pos h] at hk
      injection hk with hk
      have a1 := HQ.out
      have a2 := HR.out
      omega
    · rw [if_neg h] at hk; cases hk
  · have HX' := Lib.hid (show nxO W H c 3 = if 0 < r then some (c - 1) else none from HX.out.trans rfl)
    clear HX
    go_enter Try.func140, Try.ntmps140
    go_upto_region 1 with fail
    rw [← hw1]
    clear hw1
    go_quiet (fail)
    go_wp2
    go_ret2
    refine ⟨(c : Int) - 1, by rw [HX'.out, isSome_if]; rfl, fun k hk => ?_, below_drewN hb1 _⟩
    rw [HX'.out] at hk
    by_cases h : 0 < r
    · rw [if_pos h] at hk
      injection hk with hk
      have a1 := HQ.out
      have a2 := HR.out
      omega
    · rw [if_neg h] at hk; cases hk
end Go.Proofs.Ytfjincdlenneaaa
