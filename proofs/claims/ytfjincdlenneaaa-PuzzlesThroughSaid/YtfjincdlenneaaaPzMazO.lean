/-
  CONTRACTS: mazeOf, areMoves, Roll.
-/
import Derived.Test.YtfjincdlenneaaaPzMazD
import Derived.Deep.RegionHeld3
namespace Go.Proofs.Ytfjincdlenneaaa
open Go.RowKit Go.Shelf
theorem res_mazeOf : Try.f104.results = #[.cell 2 117] := by kernel_rfl
theorem info_maze : (Try.prog.info? 117).map (·.size) = some 5 := by kernel_rfl
theorem mcells_all (W H fr tt : Int) (A : Option Addr) (n c : Nat) : (((((#[I 0, I 0, I 0, I 0, .slice none 0 0] : Array Value).setIfInBounds 0 (I W)).setIfInBounds 1 (I H)).setIfInBounds 2 (I fr)).setIfInBounds 3 (I tt)).setIfInBounds 4 (.slice A n c) = #[I W, I H, I fr, I tt, .slice A n c] := by simp

set_option maxHeartbeats 1000000 in
theorem mazeOf_any (W H fr tt : Int) (A : Option Addr) (n c : Nat) (w : World) :
    Calls Try.prog 104 #[.agg #[I W, I H, .slice A n c, I fr, I tt]] w fun e w' => e = .returned (mazW W H fr tt A n c) ∧ Below w.heap.size w w' := by
  obtain ⟨wa, ha, sa, ya, ba⟩ := one_box w (.cells #[I W, I H, .slice A n c, I fr, I tt] 52)
  obtain ⟨w1, hw1, s1, y1, b1⟩ := one_box wa (.cells #[I 0, I 0, I 0, I 0, .slice none 0 0] 117)
  have hw2 : w1 = (w.alloc (.cells #[I W, I H, .slice A n c, I fr, I tt] 52)).alloc (.cells #[I 0, I 0, I 0, I 0, .slice none 0 0] 117) := by rw [hw1, ha]
  have y0 := (b1.block _ (by omega)).trans ya
  rw [sa] at y1
  have hb1 : Below w.heap.size w w1 := ba.trans (b1.mono (by omega))
  have f0 : w1.cell? ⟨w.heap.size, 0, none⟩ = some (I W) := cell_of_row w1 _ 0 _ _ _ y0
  have f1 : w1.cell? ⟨w.heap.size, 1, none⟩ = some (I H) := cell_of_row w1 _ 1 _ _ _ y0
  have f2 : w1.cell? ⟨w.heap.size, 2, none⟩ = some (.slice A n c) := cell_of_row w1 _ 2 _ _ _ y0
  have f3 : w1.cell? ⟨w.heap.size, 3, none⟩ = some (I fr) := cell_of_row w1 _ 3 _ _ _ y0
  have f4 : w1.cell? ⟨w.heap.size, 4, none⟩ = some (I tt) := cell_of_row w1 _ 4 _ _ _ y0
  have p0 : w1.cell? ⟨w.heap.size + 1, 0, none⟩ = some (I 0) := cell_of_row w1 _ 0 _ _ _ y1
  have p1 : w1.cell? ⟨w.heap.size + 1, 1, none⟩ = some (I 0) := cell_of_row w1 _ 1 _ _ _ y1
  have p2 : w1.cell? ⟨w.heap.size + 1, 2, none⟩ = some (I 0) := cell_of_row w1 _ 2 _ _ _ y1
  have p3 : w1.cell? ⟨w.heap.size + 1, 3, none⟩ = some (I 0) := cell_of_row w1 _ 3 _ _ _ y1
  have p4 : w1.cell? ⟨w.heap.size + 1, 4, none⟩ = some (.slice none 0 0) := cell_of_row w1 _ 4 _ _ _ y1
  have r0 : w1.frozen? ⟨w.heap.size + 1, 0, none⟩ = false := frozen_of_row y1 0
  have r1 : w1.frozen? ⟨w.heap.size + 1, 1, none⟩ = false := frozen_of_row y1 1
  have r2 : w1.frozen? ⟨w.heap.size + 1, 2, none⟩ = false := frozen_of_row y1 2
  have r3 : w1.frozen? ⟨w.heap.size + 1, 3, none⟩ = false := frozen_of_row y1 3
  have r4 : w1.frozen? ⟨w.heap.size + 1, 4, none⟩ = false := frozen_of_row y1 4
  have Y1 := Lib.hid y1
  clear ha hw1 y0 ya ba b1 y1 sa s1
  go_enter Try.func104, Try.ntmps104
  go_upto_region 1 with fail
  rw [← hw2]
  clear hw2
  go_wp2_with fail
  have g0 := row_set Y1.out 0 (I W)
  have g1 := row_set g0 1 (I H)
  have g2 := row_set g1 2 (I fr)
  have g3 := row_set g2 3 (I tt)
  have g4 := row_set g3 4 (.slice A n c)
  rw [mcells_all] at g4
  clear g0 g1 g2 g3
  refine bodyPost_ret (results_cell_row (p := 2) (ty := 117) (cs := #[I W, I H, I fr, I tt, .slice A n c]) res_mazeOf _ _ (w.heap.size + 1) 117 (0, 0) _ rfl g4 Try.underlying117 rfl info_maze) rfl ?_
  exact ⟨rfl, (((((hb1.setCell (p := ⟨w.heap.size + 1, 0, none⟩) (by show w.heap.size ≤ w.heap.size + 1; omega) _).setCell (p := ⟨w.heap.size + 1, 1, none⟩) (by show w.heap.size ≤ w.heap.size + 1; omega) _).setCell (p := ⟨w.heap.size + 1, 2, none⟩) (by show w.heap.size ≤ w.heap.size + 1; omega) _).setCell (p := ⟨w.heap.size + 1, 3, none⟩) (by show w.heap.size ≤ w.heap.size + 1; omega) _).setCell (p := ⟨w.heap.size + 1, 4, none⟩) (by show w.heap.size ≤ w.heap.size + 1; omega) _)⟩

/-- moves, as the program takes them -/
def movB (ms : List Int) : Bool := decide (ms.length ≤ 200) && inB 0 3 ms
theorem areMoves_any (A : Option Addr) (c : Nat) (ms : List Int) (w : World) (hx : IntsR w w.heap.size A ms) (hl : ms.length ≤ maxLen) :
    Calls Try.prog 106 #[.slice A ms.length c] w fun e w' => e = .returned (.bool (movB ms)) ∧ Below w.heap.size w w' := by
  by_cases hlen : ms.length ≤ 200
  · have dl : decide (ms.length ≤ 200) = true := by simp [hlen]
    have dl2 : decide ((ms.length : Int) ≤ 200) = true := by simp; omega
    have H2 := Lib.hid (show movB ms = inB 0 3 ms by rw [movB, dl]; rfl)
    clear dl
    go_enter Try.func106, Try.ntmps106
    go_wp2_with fail
    refine (allWithin_any 0 3 A c ms _ hx hl).mono ?_
    rintro e w' ⟨rfl, hb⟩
    go_wp2
    go_ret
    exact ⟨ret_bool H2.out.symm, hb⟩
  · have H2 := Lib.hid (show movB ms = false by rw [movB, decide_eq_false hlen]; rfl)
    have dl2 : decide ((ms.length : Int) ≤ 200) = false := by simp; omega
    go_enter Try.func106, Try.ntmps106
    go_wp2
    go_ret
    exact ⟨ret_bool H2.out.symm, Below.refl _ _⟩
/-- what Roll returns -/
def rolE (W H fr tt : Int) (n : Nat) (wall : Nat → Bool) (ms : List Int) : Int := fstErr [if mazB W H fr tt n wall then 0 else 30, if movB ms then 0 else 1]
def rolV (W H fr tt : Int) (n : Nat) (wall : Nat → Bool) (ms : List Int) : Int := if rolE W H fr tt n wall ms = 0 then (wlk W.toNat H.toNat wall fr.toNat ms : Nat) else 0
theorem movB_mv {ms : List Int} (h : movB ms = true) : Mv ms ∧ ms.length ≤ 200 := by
  simp [movB, inB, wi] at h
  exact ⟨fun x hx => h.2 x hx, h.1⟩
theorem mazB_in {W H fr tt : Int} {n : Nat} {wall : Nat → Bool} (h : mazB W H fr tt n wall = true) : gridM W H fr tt = true ∧ (n : Int) = W * H ∧ wall fr.toNat = false ∧ wall tt.toNat = false := by
  simp [mazB] at h
  exact ⟨h.1, h.2.1, h.2.2.1, h.2.2.2⟩
theorem rolE_ok {W H fr tt : Int} {n : Nat} {wall : Nat → Bool} {ms : List Int} (h : rolE W H fr tt n wall ms = 0) : mazB W H fr tt n wall = true ∧ movB ms = true := by
  cases h1 : mazB W H fr tt n wall <;> cases h2 : movB ms <;> simp [rolE, h1, h2, fstErr] at h ⊢
/-- a valid maze, in natural numbers -/
theorem maz_nat {W H fr tt : Int} {n : Nat} {wall : Nat → Bool} (h : mazB W H fr tt n wall = true) : ∃ W' H' f t : Nat, W = W' ∧ H = H' ∧ fr = f ∧ tt = t ∧ 1 ≤ W' ∧ W' ≤ 64 ∧ 1 ≤ H' ∧ H' ≤ 64 ∧ n = W' * H' ∧ n ≤ 64 ∧ f < n ∧ t < n ∧ wall f = false ∧ wall t = false := by
  obtain ⟨h1, h2, h3, h4⟩ := mazB_in h
  obtain ⟨g1, g2, g3, g4, g5, g6, g7, g8, g9⟩ := gridM_in h1
  obtain ⟨W', rfl⟩ : ∃ W' : Nat, W = W' := ⟨W.toNat, by omega⟩
  obtain ⟨H', rfl⟩ : ∃ H' : Nat, H = H' := ⟨H.toNat, by omega⟩
  obtain ⟨f, rfl⟩ : ∃ f : Nat, fr = f := ⟨fr.toNat, by omega⟩
  obtain ⟨t, rfl⟩ : ∃ t : Nat, tt = t := ⟨tt.toNat, by omega⟩
  have hn : n = W' * H' := by exact_mod_cast h2
  exact ⟨W', H', f, t, rfl, rfl, rfl, rfl, by omega, by omega, by omega, by omega, hn, by omega, by omega, by omega, by simpa using h3, by simpa using h4⟩
end Go.Proofs.Ytfjincdlenneaaa
