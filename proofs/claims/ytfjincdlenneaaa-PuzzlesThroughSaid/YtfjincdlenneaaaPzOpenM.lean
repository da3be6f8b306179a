/-
  ARGUMENTS OPENED: a maze (a struct with a list of Booleans in it).
-/
import Derived.Test.YtfjincdlenneaaaPzMazR
import Derived.Deep.Grids
namespace Go.Proofs.Ytfjincdlenneaaa
open Go.ChangeShapes Go.WideShapes Go.ChangeAt Go.RowKit Go.Joins Go.Deep
section
variable {H : Type} {enc : TypeId × Value → H} {W : World} {fuel : Nat}
theorem cellsBool : Try.prog.cellsOf 4 = 1 := by kernel_rfl
theorem cellsBls : Try.prog.cellsOf 50 = 1 := by kernel_rfl
theorem cellsMaze : Try.prog.cellsOf 52 = 5 := by kernel_rfl
theorem open_bools_cells {cs : List Value} {x : DataW H × List MemPlace} (hf : DataW.trod enc Try.prog W 0 (fun _ => true) true fuel 50 cs = some x) :
    ∃ (A : Option Addr) (n c : Nat) (wall : Nat → Bool), cs = [.slice A n c] ∧ BoosR W W.heap.size A wall n ∧ n ≤ maxLen := by
  rcases Deep.open_bools Try.underlying50 Try.underlying4 cellsBool hf with ⟨rfl, _⟩ | ⟨a, len, cap, B, rfl, _, hl, hm, _, hcell⟩
  · exact ⟨none, 0, 0, fun _ => false, rfl, fun h => absurd h (Nat.lt_irrefl 0), Nat.zero_le _⟩
  · refine ⟨some a, len, cap, B, rfl, fun h0 => ⟨a, rfl, ?_, fun j hj => hcell j (by omega)⟩, by omega⟩
    have := heap_pos (hcell 0 (by omega))
    rwa [block_of_add] at this
set_option maxRecDepth 100000 in
theorem open_maze {r : Reach} {b0 : Nat} {v : Value} {d : DataW H} {p : List MemPlace} (hv : Value.okWide Try.prog W r b0 52 v) (h : DataW.Trod enc Try.prog W 0 (fun _ => true) true 52 v d p) :
    ∃ (wd hg : Int) (A : Option Addr) (n c : Nat) (wall : Nat → Bool) (fr tt : Int), v = .agg #[I wd, I hg, .slice A n c, I fr, I tt] ∧ BoosR W W.heap.size A wall n ∧ n ≤ maxLen := by
  obtain ⟨cs, rfl, -⟩ := okWide_struct Try.underlying52 hv
  obtain ⟨fuel, hf⟩ := h
  obtain ⟨xs, n, -, -, hcl, hxl, hf⟩ := DataW.trod_struct Try.underlying52 hf
  obtain ⟨v0, v1, v2, v3, v4, e⟩ := five_of (hcl.trans cellsMaze)
  rw [e] at hf
  match xs, hxl with
  | [x0, x1, x2, x3, x4], _ =>
    have h0 : DataW.trod enc Try.prog W 0 (fun _ => true) true n 3 ([v0, v1, v2, v3, v4].take (Try.prog.cellsOf 3)) = some x0 := hf 0 _ rfl
    have h1 : DataW.trod enc Try.prog W 0 (fun _ => true) true n 3 ([v1, v2, v3, v4].take (Try.prog.cellsOf 3)) = some x1 := hf 1 _ rfl
    have h2 : DataW.trod enc Try.prog W 0 (fun _ => true) true n 50 ([v2, v3, v4].take (Try.prog.cellsOf 50)) = some x2 := hf 2 _ rfl
    have h3 : DataW.trod enc Try.prog W 0 (fun _ => true) true n 3 ([v3, v4].take (Try.prog.cellsOf 3)) = some x3 := hf 3 _ rfl
    have h4 : DataW.trod enc Try.prog W 0 (fun _ => true) true n 3 ([v4].take (Try.prog.cellsOf 3)) = some x4 := hf 4 _ rfl
    rw [cellsInt] at h0 h1 h3 h4
    rw [cellsBls] at h2
    obtain ⟨a, e0, -, -⟩ := DataW.trod_int Try.underlying3 h0
    obtain ⟨b, e1, -, -⟩ := DataW.trod_int Try.underlying3 h1
    obtain ⟨A, n9, c, wall, e2, hy, ly⟩ := open_bools_cells h2
    obtain ⟨f, e3, -, -⟩ := DataW.trod_int Try.underlying3 h3
    obtain ⟨g, e4, -, -⟩ := DataW.trod_int Try.underlying3 h4
    refine ⟨a, b, A, n9, c, wall, f, g, ?_, hy, ly⟩
    simp only [List.take_succ_cons, List.take_zero, List.cons.injEq, and_true] at e0 e1 e2 e3 e4
    subst e0 e1 e2 e3 e4
    have : cs = #[I a, I b, .slice A n9 c, I f, I g] := by
      apply Array.toList_inj.1
      simpa [Value.cells] using e
    rw [this]
end
end Go.Proofs.Ytfjincdlenneaaa
