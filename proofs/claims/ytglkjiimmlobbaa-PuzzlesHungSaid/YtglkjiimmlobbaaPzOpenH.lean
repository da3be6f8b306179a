/-
  ARGUMENTS OPENED: a sentence about portraits, by value.
-/
import Derived.Test.YtglkjiimmlobbaaPzOpenR
namespace Go.Proofs.Ytglkjiimmlobbaa
open Go.ChangeShapes Go.WideShapes Go.ChangeAt Go.RowKit Go.Joins Go.Deep
set_option maxRecDepth 100000 in
theorem open_por {H : Type} {enc : TypeId × Value → H} {W : World} {r : Reach} {b0 : Nat} {v : Value} {d : DataW H} {p : List MemPlace} (hv : Value.okWide Try.prog W r b0 71 v) (h : DataW.Trod enc Try.prog W 0 (fun _ => true) true 71 v d p) :
    ∃ (x : Por), v = porV x := by
  obtain ⟨cs, rfl, -⟩ := okWide_struct Try.underlying71 hv
  obtain ⟨fuel, hf⟩ := h
  obtain ⟨x, e⟩ := open_por_cells hf
  refine ⟨x, ?_⟩
  have : cs = porC x := by
    apply Array.toList_inj.1
    simpa [Value.cells] using e
  rw [this]
  rfl
end Go.Proofs.Ytglkjiimmlobbaa
