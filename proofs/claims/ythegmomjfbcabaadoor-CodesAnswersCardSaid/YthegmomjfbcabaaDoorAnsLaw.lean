/-
  CONTRACT: the law CodesAnswers.
-/
import Derived.Test.YthegmomjfbcabaaDoorRef
import Derived.Test.YthegmomjfbcabaaDoorWorks
namespace Go.Proofs.YthegmomjfbcabaaDoor
open Go.RowKit

set_option maxRecDepth 100000 in
set_option maxHeartbeats 1000000 in
theorem answers_any (W S : Int) (A1 A2 : Option Addr) (k1 k2 : Nat) (x y : List Int) (w : World) (hT : Tab w) (hx : IntsR w w.heap.size A1 x) (hy : IntsR w w.heap.size A2 y) (lx : x.length ≤ maxLen) (ly : y.length ≤ maxLen) :
    Calls Tryd.prog 4 #[lockV W S, .slice A1 x.length k1, .slice A2 y.length k2] w fun e w' => e = .returned (.bool true) ∧ Below w.heap.size w w' := by
  go_enter Tryd.func4, Tryd.ntmps4
  go_wp2_with fail
  obtain ⟨w1, hw1⟩ : ∃ w1, w1 = w.alloc (.cells #[I W, I S] 23) := ⟨_, rfl⟩
  rw [← hw1]
  have l0 : w1.cell? ⟨w.heap.size, 0, none⟩ = some (I W) := by rw [hw1]; exact alloc_cell _ _ _ 0
  have l1 : w1.cell? ⟨w.heap.size, 1, none⟩ = some (I S) := by rw [hw1]; exact alloc_cell _ _ _ 1
  have hb1 : Below w.heap.size w w1 := by rw [hw1]; exact (Below.refl _ _).alloc (Nat.le_refl _) _
  have s1 : w.heap.size < w1.heap.size := by rw [hw1]; simp
  have hx1 := ints_call hb1 hx
  have hy1 := ints_call hb1 hy
  have hT1 := hT.below hb1
  clear hw1 hx hy hT
  refine (Answer_any W S A1 A2 k1 k2 x y w1 hx1 hy1 lx ly).mono ?_
  rintro e w2 ⟨rfl, hb2⟩
  have l0 := (hb2.cell (p := ⟨w.heap.size, 0, none⟩) s1).trans l0
  have l1 := (hb2.cell (p := ⟨w.heap.size, 1, none⟩) s1).trans l1
  have hx2 := ints_call hb2 hx1
  have hy2 := ints_call hb2 hy1
  have hT2 := hT1.below hb2
  have s2 : w.heap.size < w2.heap.size := by have := hb2.size; omega
  have hbb2 : Below w.heap.size w w2 := hb1.trans (hb2.mono (by omega))
  clear hb1 hb2 hx1 hy1 hT1
  go_wp2_with fail
  refine (rAnswer_any W S A1 A2 k1 k2 x y w2 hx2 hy2 lx ly).mono ?_
  rintro e w3 ⟨rfl, hb3⟩
  have hT3 := hT2.below hb3
  have s3 : w.heap.size < w3.heap.size := by have := hb3.size; omega
  have hbb3 : Below w.heap.size w w3 := hbb2.trans (hb3.mono (by omega))
  clear hbb2 hb3 hx2 hy2 hT2
  obtain ⟨r, hr⟩ : ∃ r, r = ansR W S x y := ⟨_, rfl⟩
  obtain ⟨c, hc⟩ : ∃ c, c = ansC W S x y := ⟨_, rfl⟩
  obtain ⟨d, hd⟩ : ∃ d, d = ansE W S x y := ⟨_, rfl⟩
  rw [← hr, ← hc, ← hd]
  have h1 : (r == r) = true := by simp
  have h2 : (c == c) = true := by simp
  have h3 : (d == d) = true := by simp
  clear hr hc hd
  go_wp2_with fail
  refine (works_any w3 hT3).mono ?_
  rintro e w4 ⟨rfl, hb4⟩
  go_wp2
  go_ret
  exact ⟨rfl, hbb3.trans (hb4.mono (by omega))⟩
end Go.Proofs.YthegmomjfbcabaaDoor
