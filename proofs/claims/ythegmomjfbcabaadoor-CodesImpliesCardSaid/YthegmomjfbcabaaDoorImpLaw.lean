/-
  CONTRACT: the law CodesImplies.
-/
import Derived.Test.YthegmomjfbcabaaDoorImp
namespace Go.Proofs.YthegmomjfbcabaaDoor
open Go.RowKit

set_option maxRecDepth 100000 in
set_option maxHeartbeats 2000000 in
theorem implies_law (W S : Int) (A : Option Addr) (c : Nat) (cs : List Cl) (cl : Cl) (Ag : Option Addr) (cap : Nat) (w : World) (hT : Tab w) (hx : ClsR w w.heap.size A cs) (hl : cs.length ≤ maxLen) (hg : IntsR w w.heap.size Ag cl.guess) (lg : cl.guess.length ≤ maxLen) :
    Calls Tryd.prog 7 #[lockV W S, .slice A cs.length c, clV cl Ag cap] w fun e w' => e = .returned (.bool true) ∧ Below w.heap.size w w' := by
  obtain ⟨k, a, b, n, m, g, ng⟩ := cl
  go_enter Tryd.func7, Tryd.ntmps7
  go_upto_region 1 with fail
  obtain ⟨w1, hw1⟩ : ∃ w1, w1 = (w.alloc (.cells #[I W, I S] 23)).alloc (.cells #[I k, I a, I b, I n, I m, .slice Ag g.length cap, .bool ng] 26) := ⟨_, rfl⟩
  rw [← hw1]
  have l0 : w1.cell? ⟨w.heap.size, 0, none⟩ = some (I W) := by rw [hw1]; exact (World.cell?_alloc_lt _ _ _ (by simp)).trans (alloc_cell _ _ _ 0)
  have l1 : w1.cell? ⟨w.heap.size, 1, none⟩ = some (I S) := by rw [hw1]; exact (World.cell?_alloc_lt _ _ _ (by simp)).trans (alloc_cell _ _ _ 1)
  have bc := fun i => (by rw [hw1]; exact alloc_cell' _ _ _ _ i (by simp) : w1.cell? ⟨w.heap.size + 1, i, none⟩ = (#[I k, I a, I b, I n, I m, .slice Ag g.length cap, .bool ng] : Array Value)[i]?)
  have q0 : w1.cell? ⟨w.heap.size + 1, 0, none⟩ = some (I k) := bc 0
  have q1 : w1.cell? ⟨w.heap.size + 1, 1, none⟩ = some (I a) := bc 1
  have q2 : w1.cell? ⟨w.heap.size + 1, 2, none⟩ = some (I b) := bc 2
  have q3 : w1.cell? ⟨w.heap.size + 1, 3, none⟩ = some (I n) := bc 3
  have q4 : w1.cell? ⟨w.heap.size + 1, 4, none⟩ = some (I m) := bc 4
  have q5 : w1.cell? ⟨w.heap.size + 1, 5, none⟩ = some (.slice Ag g.length cap) := bc 5
  have q6 : w1.cell? ⟨w.heap.size + 1, 6, none⟩ = some (.bool ng) := bc 6
  have hb1 : Below w.heap.size w w1 := by rw [hw1]; exact two_boxes _ _ _
  have s0 : w.heap.size < w1.heap.size := by rw [hw1]; simp; omega
  have s1 : w.heap.size + 1 < w1.heap.size := by rw [hw1]; simp
  have hg1 := ints_call hb1 hg
  have hx1 := cls_call hb1 hx
  have hT1 := hT.below hb1
  clear hw1 hg hx hT
  have BC := Lib.hid bc
  clear bc
  go_wp2_with fail
  refine (Implies_any W S A c cs ⟨k, a, b, n, m, g, ng⟩ Ag cap w1 hT1 hx1 hl hg1 lg).mono ?_
  rintro e w2 ⟨A1, c1, rfl, hi1, hm1, hb2⟩
  have l0 := (hb2.cell (p := ⟨w.heap.size, 0, none⟩) s0).trans l0
  have l1 := (hb2.cell (p := ⟨w.heap.size, 1, none⟩) s0).trans l1
  have BC := Lib.hid (fun i => (hb2.cell (p := ⟨w.heap.size + 1, i, none⟩) s1).trans (BC.out i))
  clear q0 q1 q2 q3 q4 q5 q6
  have q0 : w2.cell? ⟨w.heap.size + 1, 0, none⟩ = some (I k) := BC.out 0
  have q1 : w2.cell? ⟨w.heap.size + 1, 1, none⟩ = some (I a) := BC.out 1
  have q2 : w2.cell? ⟨w.heap.size + 1, 2, none⟩ = some (I b) := BC.out 2
  have q3 : w2.cell? ⟨w.heap.size + 1, 3, none⟩ = some (I n) := BC.out 3
  have q4 : w2.cell? ⟨w.heap.size + 1, 4, none⟩ = some (I m) := BC.out 4
  have q5 : w2.cell? ⟨w.heap.size + 1, 5, none⟩ = some (.slice Ag g.length cap) := BC.out 5
  have q6 : w2.cell? ⟨w.heap.size + 1, 6, none⟩ = some (.bool ng) := BC.out 6
  have hg2 := ints_call hb2 hg1
  have hx2 := cls_call hb2 hx1
  have hT2 := hT1.below hb2
  have hbb2 : Below w.heap.size w w2 := hb1.trans (hb2.mono (by omega))
  clear hb1 hb2 hg1 hx1 hT1
  go_wp2_with fail
  refine (rImplies_any W S A c cs ⟨k, a, b, n, m, g, ng⟩ Ag cap w2 hx2 hl hg2 lg).mono ?_
  rintro e w3 ⟨A2, c2, rfl, hi2, hm2, hb3⟩
  have hi1' := ints_call hb3 hi1
  have hT3 := hT2.below hb3
  have hbb3 : Below w.heap.size w w3 := hbb2.trans (hb3.mono (by have := hbb2.size; omega))
  clear hb3 hg2 hx2 hT2 hbb2 hi1 l0 l1 q0 q1 q2 q3 q4 q5 q6
  obtain ⟨x, hx⟩ : ∃ x, x = impR W S cs ⟨k, a, b, n, m, g, ng⟩ := ⟨_, rfl⟩
  obtain ⟨r, hr⟩ : ∃ r, r = impB W S cs ⟨k, a, b, n, m, g, ng⟩ := ⟨_, rfl⟩
  obtain ⟨d, hd⟩ : ∃ d, d = impE W S cs ⟨k, a, b, n, m, g, ng⟩ := ⟨_, rfl⟩
  rw [← hx] at hi1' hi2 hm1 hm2 ⊢
  rw [← hr, ← hd]
  have h1 : (r == r) = true := by simp
  have h3 : (d == d) = true := by simp
  clear hr hd hx
  go_wp2_with fail
  refine (SameInts_any A1 A2 c1 c2 x x w3 hi1' hi2 hm1 hm2).mono ?_
  rintro e w4 ⟨rfl, hb4⟩
  rw [decide_eq_true (rfl : x = x)]
  have hT4 := hT3.below hb4
  have hbb4 : Below w.heap.size w w4 := hbb3.trans (hb4.mono (by have := hbb3.size; omega))
  clear hb4 hT3 hbb3
  go_wp2_with fail
  refine (works_any w4 hT4).mono ?_
  rintro e w5 ⟨rfl, hb5⟩
  go_wp2
  go_ret
  exact ⟨rfl, hbb4.trans (hb5.mono (by have := hbb4.size; omega))⟩
end Go.Proofs.YthegmomjfbcabaaDoor
