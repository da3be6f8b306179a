/-
  CONTRACT: the law CodesMirror.
-/
import Derived.Test.YthegmomjfbcabaaDoorSame
namespace Go.Proofs.YthegmomjfbcabaaDoor
open Go.RowKit
theorem fst2 (a b : Int) : fstErr [a, b] = if a = 0 then b else a := by
  by_cases h : a = 0 <;> by_cases h' : b = 0 <;> simp [fstErr, h, h']
theorem ansE_symm (W S : Int) (x y : List Int) : ansE W S x y = ansE W S y x := by
  have : codesErr W S [x, y] = codesErr W S [y, x] := by simp [codesErr, and_comm]
  rw [ansE, ansE, this]
theorem ansE_facts {W S : Int} {x y : List Int} (h : ansE W S x y = 0) :
    ∃ n : Nat, W = n ∧ n ≤ 4 ∧ x.length = n ∧ y.length = n ∧ Sym x n ∧ Sym y n ∧ ansE W S x x = 0 := by
  obtain ⟨h1, h2⟩ := fst2_zero.1 h
  have hL := lockOk_facts (lockErr_zero.1 h1)
  have hC := codesErr_zero.1 h2
  simp only [List.all_cons, List.all_nil, Bool.and_true, Bool.and_eq_true] at hC
  obtain ⟨a1, a2⟩ := codeB_facts (by omega) (by omega) hC.1
  obtain ⟨b1, b2⟩ := codeB_facts (by omega) (by omega) hC.2
  refine ⟨x.length, by omega, by omega, rfl, by omega, fun i hi => by have := a2 i hi; omega, fun i hi => by have := b2 i (by omega); omega, ?_⟩
  exact fst2_zero.2 ⟨h1, codesErr_zero.2 (by simp [hC.1])⟩
theorem rgt_nonneg (x y : List Int) (n : Nat) : 0 ≤ rgt x y n := by
  induction n with
  | zero => simp [rgt]
  | succ n ih => simp only [rgt]; split <;> omega
/-- what the law asks of two plain answers -/
theorem mirror_facts {W S : Int} {x y : List Int} (h : ansE W S x y = 0) :
    ansE W S y x = 0 ∧ ansE W S x x = 0 ∧ ansR W S x x = W ∧ ansC W S x x = 0 ∧ ansR W S y x = ansR W S x y ∧ ansC W S y x = ansC W S x y ∧ 0 ≤ ansR W S x y ∧ 0 ≤ ansC W S x y ∧ ansR W S x y + ansC W S x y ≤ W ∧ W ≤ 4 ∧ (ansR W S x y = W ↔ x = y) := by
  obtain ⟨n, rfl, hn, hx, hy, sx, sy, hxx⟩ := ansE_facts h
  have hyx := (ansE_symm n S x y).symm.trans h
  have e1 : ansR n S x y = rgt x y n := by rw [ansR, if_pos h, hx]
  have e2 : ansC n S x y = com x y n 10 - rgt x y n := by rw [ansC, if_pos h, hx]
  have e3 : ansR n S y x = rgt x y n := by rw [ansR, if_pos hyx, hy, rgt_symm]
  have e4 : ansC n S y x = com x y n 10 - rgt x y n := by rw [ansC, if_pos hyx, hy, rgt_symm, com_symm]
  have e5 : ansR n S x x = n := by rw [ansR, if_pos hxx, hx, rgt_self]
  have e6 : ansC n S x x = 0 := by rw [ansC, if_pos hxx, hx, rgt_self, com_self x n sx]; omega
  have h1 := rgt_le_com x y n sx
  have h2 := com_le x y n sx
  have h3 := rgt_nonneg x y n
  refine ⟨hyx, hxx, e5, e6, by rw [e3, e1], by rw [e4, e2], by omega, by omega, by omega, by omega, ?_⟩
  rw [e1, rgt_full]
  constructor
  · intro h; exact nth_ext (by omega) (fun j hj => h j (by omega))
  · rintro rfl i _; rfl

set_option maxRecDepth 100000 in
set_option maxHeartbeats 2000000 in
theorem mirror_any (W S : Int) (A1 A2 : Option Addr) (k1 k2 : Nat) (x y : List Int) (w : World) (hT : Tab w) (hx : IntsR w w.heap.size A1 x) (hy : IntsR w w.heap.size A2 y) (lx : x.length ≤ maxLen) (ly : y.length ≤ maxLen) :
    Calls Tryd.prog 17 #[lockV W S, .slice A1 x.length k1, .slice A2 y.length k2] w fun e w' => e = .returned (.bool true) ∧ Below w.heap.size w w' := by
  go_enter Tryd.func17, Tryd.ntmps17
  go_wp2_with fail
  obtain ⟨w1, hw1⟩ : ∃ w1, w1 = w.alloc (.cells #[I W, I S] 23) := ⟨_, rfl⟩
  rw [← hw1]
  have l0 : w1.cell? ⟨w.heap.size, 0, none⟩ = some (I W) := by rw [hw1]; exact alloc_cell _ _ _ 0
  have l1 : w1.cell? ⟨w.heap.size, 1, none⟩ = some (I S) := by rw [hw1]; exact alloc_cell _ _ _ 1
  have hb1 : Below w.heap.size w w1 := by rw [hw1]; exact (Below.refl _ _).alloc (Nat.le_refl _) _
  have s1 : w.heap.size < w1.heap.size := by rw [hw1]; simp
  have hx1 := ints_call hb1 hx
  have hy1 := ints_call hb1 hy
  have hT1 := hT.below hb1
  clear hw1 hx hy hT
  refine (Answer_any W S A1 A2 k1 k2 x y w1 hx1 hy1 lx ly).mono ?_
  rintro e w2 ⟨rfl, hb2⟩
  have l0 := (hb2.cell (p := ⟨w.heap.size, 0, none⟩) s1).trans l0
  have l1 := (hb2.cell (p := ⟨w.heap.size, 1, none⟩) s1).trans l1
  have hx2 := ints_call hb2 hx1
  have hy2 := ints_call hb2 hy1
  have hT2 := hT1.below hb2
  have s2 : w.heap.size < w2.heap.size := by have := hb2.size; omega
  have hbb2 : Below w.heap.size w w2 := hb1.trans (hb2.mono (by omega))
  clear hb1 hb2 hx1 hy1 hT1
  go_wp2_with fail
  refine (Answer_any W S A2 A1 k2 k1 y x w2 hy2 hx2 ly lx).mono ?_
  rintro e w3 ⟨rfl, hb3⟩
  have l0 := (hb3.cell (p := ⟨w.heap.size, 0, none⟩) s2).trans l0
  have l1 := (hb3.cell (p := ⟨w.heap.size, 1, none⟩) s2).trans l1
  have hx3 := ints_call hb3 hx2
  have hy3 := ints_call hb3 hy2
  have hT3 := hT2.below hb3
  have s3 : w.heap.size < w3.heap.size := by have := hb3.size; omega
  have hbb3 : Below w.heap.size w w3 := hbb2.trans (hb3.mono (by omega))
  clear hbb2 hb3 hx2 hy2 hT2
  rw [← ansE_symm W S x y]
  by_cases he : ansE W S x y = 0
  · obtain ⟨q1, q2, q3, q4, q5, q6, q7, q8, q9, q10, q11⟩ := mirror_facts he
    have hb0 : (ansE W S x y != 0) = false := by simp [he]
    obtain ⟨r', hr'⟩ : ∃ r', r' = ansR W S y x := ⟨_, rfl⟩
    obtain ⟨d', hd'⟩ : ∃ d', d' = ansC W S y x := ⟨_, rfl⟩
    have hrr : (ansR W S x y == r') = true := by rw [hr', q5]; simp
    have hdd : (ansC W S x y == d') = true := by rw [hd', q6]; simp
    rw [← hr', ← hd']
    clear hr' hd'
    have hEX := Lib.hid q2
    have hRX := Lib.hid q3
    have hCX := Lib.hid q4
    obtain ⟨sm, hsm⟩ : ∃ sm, sm = decide (x = y) := ⟨_, rfl⟩
    have hSame : (ansR W S x y == W) = sm := by
      rw [hsm]
      by_cases h : x = y
      · rw [decide_eq_true h]; simpa using q11.2 h
      · rw [decide_eq_false h]; simpa using fun h' => h (q11.1 h')
    have HSM := Lib.hid hsm
    clear hsm
    have hsum : wrap64 (ansR W S x y + ansC W S x y) = ansR W S x y + ansC W S x y := IntWalk.wrap64_in _ ⟨by omega, by omega⟩
    have hsum2 : IntKind.i64.wrap (ansR W S x y + ansC W S x y) = ansR W S x y + ansC W S x y := (IntWalk.i64_left _).trans hsum
    clear q1 q2 q3 q4 q5 q6 q11 he
    generalize ansR W S x y = r at *
    generalize ansC W S x y = d at *
    generalize ansE W S x y = e0 at *
    go_wp2_with fail
    refine (Answer_any W S A1 A1 k1 k1 x x w3 hx3 hx3 lx lx).mono ?_
    rintro e w4 ⟨rfl, hb4⟩
    rw [hEX.out, hRX.out, hCX.out]
    have l0 := (hb4.cell (p := ⟨w.heap.size, 0, none⟩) s3).trans l0
    have l1 := (hb4.cell (p := ⟨w.heap.size, 1, none⟩) s3).trans l1
    have hx4 := ints_call hb4 hx3
    have hy4 := ints_call hb4 hy3
    have hT4 := hT3.below hb4
    have s4 : w.heap.size < w4.heap.size := by have := hb4.size; omega
    have hbb4 : Below w.heap.size w w4 := hbb3.trans (hb4.mono (by omega))
    clear hbb3 hb4 hx3 hy3 hT3
    go_upto_region 8 with fail
    cases sm
    all_goals
     go_region_held3 (fun w' => Below w4.heap.size w4 w' ∧ (∀ b o, b < w4.heap.size → w'.cell? ⟨b, o, none⟩ = w4.cell? ⟨b, o, none⟩))
      (first | exact keptS_drew _ | exact keptS_call (by assumption) hb | exact keptS_alloc (by assumption) _ | assumption)
      (first
        | (go_at_call 41; go_must (refine (SameInts_any _ _ _ _ x y _ ?_ ?_ lx ly).mono ?_); go_must (exact kept_ints (by assumption) hx4); go_must (exact kept_ints (by assumption) hy4); rw [← HSM.out]; rintro e w' ⟨rfl, hb⟩)
        | (go_at_call 27; go_must (refine (works_any _ ?_).mono ?_); go_must (exact hT4.below (And.left (by assumption : KeptS w4 _))); rintro e w' ⟨rfl, hb⟩))
     all_goals
      go_wp2_with fail
      go_ret
      exact ⟨rfl, hbb4.trans (Below.mono (And.left (by assumption : KeptS w4 _)) (by omega))⟩
  · have hb0 : (ansE W S x y != 0) = true := by simpa using he
    go_wp2_with fail
    refine (works_any w3 hT3).mono ?_
    rintro e w4 ⟨rfl, hb4⟩
    go_wp2
    go_ret
    exact ⟨rfl, hbb3.trans (hb4.mono (by omega))⟩
end Go.Proofs.YthegmomjfbcabaaDoor
