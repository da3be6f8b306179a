/-
  ARGUMENTS OPENED: structs of integers.
-/
import Derived.Test.YtglkjiimmlobbaaPzRow
import Derived.ProofKit
import Derived.OpenShut
import Derived.Lib.SmallJoins
import Derived.Deep.Fields
namespace Go.Proofs.Ytglkjiimmlobbaa
open Go.ChangeShapes Go.WideShapes Go.ChangeAt Go.RowKit Go.Joins Go.Deep
theorem onePress : oneCellFields Try.prog #[⟨"Heard", 3, 0, false, "", "", 0⟩, ⟨"Key", 3, 1, false, "", "", 8⟩] = true := by kernel_rfl
theorem cellsPress : Try.prog.cellsOf 63 = 2 := by kernel_rfl
theorem cellsInt : Try.prog.cellsOf 3 = 1 := by kernel_rfl
set_option maxRecDepth 100000 in
theorem open_press {H : Type} {enc : TypeId × Value → H} {W : World} {r : Reach} {b0 : Nat} {v : Value} {d : DataW H} {p : List MemPlace} (hv : Value.okWide Try.prog W r b0 63 v) (h : DataW.Trod enc Try.prog W 0 (fun _ => true) true 63 v d p) :
    ∃ a b : Int, v = .agg #[I a, I b] := by
  obtain ⟨v0, v1, y0, y1, n, rfl, -, -, h0, h1⟩ := open_agg2 Try.underlying63 onePress cellsPress hv h
  obtain ⟨a, e0, -, -⟩ := DataW.trod_int Try.underlying3 h0
  obtain ⟨b, e1, -, -⟩ := DataW.trod_int Try.underlying3 h1
  simp only [List.cons.injEq, and_true] at e0 e1
  subst e0 e1
  exact ⟨a, b, rfl⟩
theorem oneKey : oneCellFields Try.prog #[⟨"N", 3, 0, false, "", "", 0⟩, ⟨"Word", 9, 1, false, "", "", 8⟩, ⟨"Back", 4, 2, false, "", "", 24⟩] = true := by kernel_rfl
theorem cellsKey : Try.prog.cellsOf 23 = 3 := by kernel_rfl
set_option maxRecDepth 100000 in
theorem open_key {H : Type} {enc : TypeId × Value → H} {W : World} {r : Reach} {b0 : Nat} {v : Value} {d : DataW H} {p : List MemPlace} (hv : Value.okWide Try.prog W r b0 23 v) (h : DataW.Trod enc Try.prog W 0 (fun _ => true) true 23 v d p) :
    ∃ (n : Int) (s : ByteArray) (b : Bool), v = .agg #[I n, .string s, .bool b] ∧ s.size ≤ maxLen := by
  obtain ⟨v0, v1, v2, y0, y1, y2, n, rfl, -, -, h0, h1, h2⟩ := open_agg3 Try.underlying23 oneKey cellsKey hv h
  obtain ⟨a, e0, -, -⟩ := DataW.trod_int Try.underlying3 h0
  obtain ⟨b, e1, -, hb⟩ := DataW.trod_string Try.underlying9 h1
  obtain ⟨c, e2, _hy⟩ := DataW.trod_bool Try.underlying4 h2
  simp only [List.cons.injEq, and_true] at e0 e1 e2
  subst e0 e1 e2
  exact ⟨a, b, c, rfl, hb⟩
end Go.Proofs.Ytglkjiimmlobbaa
