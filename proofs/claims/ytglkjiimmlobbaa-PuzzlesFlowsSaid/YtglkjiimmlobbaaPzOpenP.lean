/-
  ARGUMENTS OPENED: pipes (a struct with a list in it).
-/
import Derived.Test.YtglkjiimmlobbaaPzOpen
namespace Go.Proofs.Ytglkjiimmlobbaa
open Go.ChangeShapes Go.WideShapes Go.ChangeAt Go.RowKit Go.Joins Go.Deep
section
variable {H : Type} {enc : TypeId × Value → H} {W : World} {fuel : Nat}
theorem open_ints_cells {cs : List Value} {x : DataW H × List MemPlace} (hf : DataW.trod enc Try.prog W 0 (fun _ => true) true fuel 29 cs = some x) :
    ∃ (A : Option Addr) (c : Nat) (xs : List Int), cs = [.slice A xs.length c] ∧ IntsR W W.heap.size A xs ∧ xs.length ≤ maxLen := by
  rcases open_ints Try.underlying29 Try.underlying3 cellsInt hf with ⟨rfl, _⟩ | ⟨a, len, cap, zs, rfl, _, hl, hm, hz, _, hcell, _⟩
  · exact ⟨none, 0, [], rfl, fun h => absurd h (Nat.lt_irrefl 0), Nat.zero_le _⟩
  · simp only [if_true] at hz
    have hlen : (zs.take len).length = len := by simp; omega
    refine ⟨some a, cap, zs.take len, by rw [hlen], fun h0 => ⟨a, rfl, ?_, fun j hj => ?_⟩, by rw [hlen]; omega⟩
    · have := heap_pos (hcell 0 (by omega))
      rwa [block_of_add] at this
    · rw [hlen] at hj
      rw [hcell j (by omega)]
      simp [nth, hj, List.getD]
theorem cellsSl : Try.prog.cellsOf 29 = 1 := by kernel_rfl
theorem cellsPipes : Try.prog.cellsOf 43 = 5 := by kernel_rfl
theorem five_of {cs : List Value} (h : cs.length = 5) : ∃ a b c d e, cs = [a, b, c, d, e] := by
  match cs, h with
  | [a, b, c, d, e], _ => exact ⟨a, b, c, d, e, rfl⟩
set_option maxRecDepth 100000 in
theorem open_pipes {r : Reach} {b0 : Nat} {v : Value} {d : DataW H} {p : List MemPlace} (hv : Value.okWide Try.prog W r b0 43 v) (h : DataW.Trod enc Try.prog W 0 (fun _ => true) true 43 v d p) :
    ∃ (wd hg : Int) (A : Option Addr) (c : Nat) (xs : List Int) (fr tt : Int), v = .agg #[I wd, I hg, .slice A xs.length c, I fr, I tt] ∧ IntsR W W.heap.size A xs ∧ xs.length ≤ maxLen := by
  obtain ⟨cs, rfl, -⟩ := okWide_struct Try.underlying43 hv
  obtain ⟨fuel, hf⟩ := h
  obtain ⟨xs, n, -, -, hcl, hxl, hf⟩ := DataW.trod_struct Try.underlying43 hf
  obtain ⟨v0, v1, v2, v3, v4, e⟩ := five_of (hcl.trans cellsPipes)
  rw [e] at hf
  match xs, hxl with
  | [x0, x1, x2, x3, x4], _ =>
    have h0 : DataW.trod enc Try.prog W 0 (fun _ => true) true n 3 ([v0, v1, v2, v3, v4].take (Try.prog.cellsOf 3)) = some x0 := hf 0 _ rfl
    have h1 : DataW.trod enc Try.prog W 0 (fun _ => true) true n 3 ([v1, v2, v3, v4].take (Try.prog.cellsOf 3)) = some x1 := hf 1 _ rfl
    have h2 : DataW.trod enc Try.prog W 0 (fun _ => true) true n 29 ([v2, v3, v4].take (Try.prog.cellsOf 29)) = some x2 := hf 2 _ rfl
    have h3 : DataW.trod enc Try.prog W 0 (fun _ => true) true n 3 ([v3, v4].take (Try.prog.cellsOf 3)) = some x3 := hf 3 _ rfl
    have h4 : DataW.trod enc Try.prog W 0 (fun _ => true) true n 3 ([v4].take (Try.prog.cellsOf 3)) = some x4 := hf 4 _ rfl
    rw [cellsInt] at h0 h1 h3 h4
    rw [cellsSl] at h2
    obtain ⟨a, e0, -, -⟩ := DataW.trod_int Try.underlying3 h0
    obtain ⟨b, e1, -, -⟩ := DataW.trod_int Try.underlying3 h1
    obtain ⟨A, c, y, e2, hy, ly⟩ := open_ints_cells h2
    obtain ⟨f, e3, -, -⟩ := DataW.trod_int Try.underlying3 h3
    obtain ⟨g, e4, -, -⟩ := DataW.trod_int Try.underlying3 h4
    refine ⟨a, b, A, c, y, f, g, ?_, hy, ly⟩
    simp only [List.take_succ_cons, List.take_zero, List.cons.injEq, and_true] at e0 e1 e2 e3 e4
    subst e0 e1 e2 e3 e4
    have : cs = #[I a, I b, .slice A y.length c, I f, I g] := by
      apply Array.toList_inj.1
      simpa [Value.cells] using e
    rw [this]
end
end Go.Proofs.Ytglkjiimmlobbaa
