/-
  CONTRACTS: pipesOf, canTurn, check of the pipes.
-/
import Derived.Test.YtglkjiimmlobbaaPzChkP
namespace Go.Proofs.Ytglkjiimmlobbaa
open Go.RowKit Go.Shelf
theorem res_pipesOf : Try.f93.results = #[.cell 2 103] := by kernel_rfl
theorem info_pipes : (Try.prog.info? 103).map (·.size) = some 5 := by kernel_rfl
theorem pcells_all (W H fr tt : Int) (A : Option Addr) (n c : Nat) : (((((#[I 0, I 0, I 0, I 0, .slice none 0 0] : Array Value).setIfInBounds 0 (I W)).setIfInBounds 1 (I H)).setIfInBounds 2 (I fr)).setIfInBounds 3 (I tt)).setIfInBounds 4 (.slice A n c) = #[I W, I H, I fr, I tt, .slice A n c] := by simp

set_option maxHeartbeats 1000000 in
theorem pipesOf_any (W H fr tt : Int) (A : Option Addr) (n c : Nat) (w : World) :
    Calls Try.prog 93 #[.agg #[I W, I H, .slice A n c, I fr, I tt]] w fun e w' => e = .returned (pipesI W H fr tt A n c) ∧ Below w.heap.size w w' := by
  obtain ⟨wa, ha, sa, ya, ba⟩ := one_box w (.cells #[I W, I H, .slice A n c, I fr, I tt] 43)
  obtain ⟨w1, hw1, s1, y1, b1⟩ := one_box wa (.cells #[I 0, I 0, I 0, I 0, .slice none 0 0] 103)
  have hw2 : w1 = (w.alloc (.cells #[I W, I H, .slice A n c, I fr, I tt] 43)).alloc (.cells #[I 0, I 0, I 0, I 0, .slice none 0 0] 103) := by rw [hw1, ha]
  have y0 := (b1.block _ (by omega)).trans ya
  rw [sa] at y1
  have hb1 : Below w.heap.size w w1 := ba.trans (b1.mono (by omega))
  have f0 : w1.cell? ⟨w.heap.size, 0, none⟩ = some (I W) := cell_of_row w1 _ 0 _ _ _ y0
  have f1 : w1.cell? ⟨w.heap.size, 1, none⟩ = some (I H) := cell_of_row w1 _ 1 _ _ _ y0
  have f2 : w1.cell? ⟨w.heap.size, 2, none⟩ = some (.slice A n c) := cell_of_row w1 _ 2 _ _ _ y0
  have f3 : w1.cell? ⟨w.heap.size, 3, none⟩ = some (I fr) := cell_of_row w1 _ 3 _ _ _ y0
  have f4 : w1.cell? ⟨w.heap.size, 4, none⟩ = some (I tt) := cell_of_row w1 _ 4 _ _ _ y0
  have p0 : w1.cell? ⟨w.heap.size + 1, 0, none⟩ = some (I 0) := cell_of_row w1 _ 0 _ _ _ y1
  have p1 : w1.cell? ⟨w.heap.size + 1, 1, none⟩ = some (I 0) := cell_of_row w1 _ 1 _ _ _ y1
  have p2 : w1.cell? ⟨w.heap.size + 1, 2, none⟩ = some (I 0) := cell_of_row w1 _ 2 _ _ _ y1
  have p3 : w1.cell? ⟨w.heap.size + 1, 3, none⟩ = some (I 0) := cell_of_row w1 _ 3 _ _ _ y1
  have p4 : w1.cell? ⟨w.heap.size + 1, 4, none⟩ = some (.slice none 0 0) := cell_of_row w1 _ 4 _ _ _ y1
  have r0 : w1.frozen? ⟨w.heap.size + 1, 0, none⟩ = false := frozen_of_row y1 0
  have r1 : w1.frozen? ⟨w.heap.size + 1, 1, none⟩ = false := frozen_of_row y1 1
  have r2 : w1.frozen? ⟨w.heap.size + 1, 2, none⟩ = false := frozen_of_row y1 2
  have r3 : w1.frozen? ⟨w.heap.size + 1, 3, none⟩ = false := frozen_of_row y1 3
  have r4 : w1.frozen? ⟨w.heap.size + 1, 4, none⟩ = false := frozen_of_row y1 4
  have Y1 := Lib.hid y1
  clear ha hw1 y0 ya ba b1 y1 sa s1
  go_enter Try.func93, Try.ntmps93
  go_upto_region 1 with fail
  rw [← hw2]
  clear hw2
  go_wp2_with fail
  have g0 := row_set Y1.out 0 (I W)
  have g1 := row_set g0 1 (I H)
  have g2 := row_set g1 2 (I fr)
  have g3 := row_set g2 3 (I tt)
  have g4 := row_set g3 4 (.slice A n c)
  rw [pcells_all] at g4
  clear g0 g1 g2 g3
  refine bodyPost_ret (results_cell_row (p := 2) (ty := 103) (cs := #[I W, I H, I fr, I tt, .slice A n c]) res_pipesOf _ _ (w.heap.size + 1) 103 (0, 0) _ rfl g4 Try.underlying103 rfl info_pipes) rfl ?_
  exact ⟨rfl, (((((hb1.setCell (p := ⟨w.heap.size + 1, 0, none⟩) (by show w.heap.size ≤ w.heap.size + 1; omega) _).setCell (p := ⟨w.heap.size + 1, 1, none⟩) (by show w.heap.size ≤ w.heap.size + 1; omega) _).setCell (p := ⟨w.heap.size + 1, 2, none⟩) (by show w.heap.size ≤ w.heap.size + 1; omega) _).setCell (p := ⟨w.heap.size + 1, 3, none⟩) (by show w.heap.size ≤ w.heap.size + 1; omega) _).setCell (p := ⟨w.heap.size + 1, 4, none⟩) (by show w.heap.size ≤ w.heap.size + 1; omega) _)⟩

theorem cells_raw (W H fr tt : Int) (w : World) :
    Calls Try.prog 97 #[gridI W H fr tt] w fun e w' => e = .returned (I (wrap64 (W * H))) ∧ Below w.heap.size w w' := by
  obtain ⟨w1, hw1, hs1, y0, hb1⟩ := one_box w (.cells #[I W, I H, I fr, I tt] 101)
  have b0 : w1.cell? ⟨w.heap.size, 0, none⟩ = some (I W) := cell_of_row w1 _ 0 _ _ _ y0
  have b1 : w1.cell? ⟨w.heap.size, 1, none⟩ = some (I H) := cell_of_row w1 _ 1 _ _ _ y0
  clear y0 hs1
  go_enter Try.func97, Try.ntmps97
  go_upto_region 1 with fail
  rw [← hw1]
  clear hw1
  go_wp2
  go_ret
  exact ⟨rfl, hb1⟩
def turnB (W H : Int) (ts : List Int) : Bool := ((ts.length : Int) == wrap64 (W * H)) && inB 0 3 ts
set_option maxHeartbeats 1000000 in
theorem canTurn_any (W H fr tt : Int) (A A2 : Option Addr) (n c c2 : Nat) (ts : List Int) (w : World) (hy : IntsR w w.heap.size A2 ts) (hl : ts.length ≤ maxLen) :
    Calls Try.prog 95 #[pipesI W H fr tt A n c, .slice A2 ts.length c2] w fun e w' => e = .returned (.bool (turnB W H ts)) ∧ Below w.heap.size w w' := by
  obtain ⟨w1, hw1, hs1, y0, hb1⟩ := one_box w (.cells #[I W, I H, I fr, I tt, .slice A n c] 103)
  have b0 : w1.cell? ⟨w.heap.size, 0, none⟩ = some (I W) := cell_of_row w1 _ 0 _ _ _ y0
  have b1 : w1.cell? ⟨w.heap.size, 1, none⟩ = some (I H) := cell_of_row w1 _ 1 _ _ _ y0
  have b2 : w1.cell? ⟨w.heap.size, 2, none⟩ = some (I fr) := cell_of_row w1 _ 2 _ _ _ y0
  have b3 : w1.cell? ⟨w.heap.size, 3, none⟩ = some (I tt) := cell_of_row w1 _ 3 _ _ _ y0
  have hy1 := ints_call hb1 hy
  clear y0 hs1
  go_enter Try.func95, Try.ntmps95
  go_upto_region 1 with fail
  rw [← hw1]
  clear hw1
  go_wp2_with fail
  refine (cells_raw W H fr tt w1).mono ?_
  rintro e w2 ⟨rfl, hb2⟩
  have hy2 := ints_call hb2 hy1
  have hB2 := hb1.trans (hb2.mono hb1.size)
  obtain ⟨N, hN⟩ : ∃ N, N = wrap64 (W * H) := ⟨_, rfl⟩
  rw [← hN]
  have HN := Lib.hid (show turnB W H ts = (((ts.length : Int) == N) && inB 0 3 ts) by rw [hN]; rfl)
  clear hN b0 b1 b2 b3 hy1 hy
  cases q : ((ts.length : Int) == N)
  · have HG := Lib.hid (show turnB W H ts = false by rw [HN.out, q]; rfl)
    go_wp2
    go_ret
    exact ⟨ret_bool HG.out.symm, hB2⟩
  · have HG := Lib.hid (show turnB W H ts = inB 0 3 ts by rw [HN.out, q]; rfl)
    go_wp2_with fail
    refine (allWithin_any 0 3 A2 c2 ts w2 hy2 hl).mono ?_
    rintro e w3 ⟨rfl, hb3⟩
    go_wp2
    go_ret
    exact ⟨ret_bool HG.out.symm, hB2.trans (hb3.mono hB2.size)⟩
/-- the error of pipes -/
def pipB (W H fr tt : Int) (ps : List Int) : Bool := gridB W H fr tt && (((ps.length : Int) == wrap64 (W * H)) && inB 0 15 ps)
end Go.Proofs.Ytglkjiimmlobbaa
