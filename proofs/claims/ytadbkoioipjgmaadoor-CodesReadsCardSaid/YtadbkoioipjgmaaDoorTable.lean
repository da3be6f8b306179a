/-
  THE ROW's LISTED TABLE GIVES 'Tab'; ARGUMENTS OPENED.
-/
import Derived.Test.YtadbkoioipjgmaaDoorMirror
import Derived.Test.YtadbkoioipjgmaaDoorCards
import Derived.Test.YtadbkoioipjgmaaDoorTie
import Derived.WalkKit
import Derived.ProofKit
import Derived.OpenShut
import Derived.Deep.DeepHandedRow
import Derived.Lib.LaidTab
import Derived.Lib.SmallJoins
import Derived.ChangeSlices
import Derived.ChangeSame
import Derived.Carry
namespace Go.Proofs.YtadbkoioipjgmaaDoor
open Go.ChangeShapes Go.WideShapes Go.ChangeAt Go.RowKit Go.Joins
theorem gTab : Tryd.prog.globalNamed "padlock/codes.shapes" = some 0 := by kernel_rfl
theorem gTabType : (Tryd.prog.globals[0]?).map (·.type) = some 133 := by kernel_rfl
theorem cellsTab : Tryd.prog.cellsOf 133 = 21 := by kernel_rfl
theorem cellsShape : Tryd.prog.cellsOf 132 = 3 := by kernel_rfl
theorem ownNone : ownKnob Tryd.prog.godebug = none := by kernel_rfl
theorem laidOutP : laidOutB Tryd.prog = true := by kernel_rfl
theorem bytes_ext {s : ByteArray} {l : List UInt8} (h : s.data.toList = l) : s = ⟨l.toArray⟩ := by
  cases s; simp only at h; subst h; simp
section
variable {H : Type} {enc : TypeId × Value → H} {w : World} {base : Nat} {spare : Nat → Bool} {held : Bool} {fuel : Nat}
theorem three_of {cs : List Value} (h : cs.length = 3) : ∃ a b c, cs = [a, b, c] := by
  match cs, h with
  | [a, b, c], _ => exact ⟨a, b, c, rfl⟩
/-- an entry of the table -/
theorem shape_cells {cs : List Value} {x : DataW H × List MemPlace} {a b : List UInt8} {c : Bool} (h : DataW.trod enc Tryd.prog w base spare held fuel 132 cs = some x)
    (hx : x.1 = .agg [.lit (.string a), .lit (.string b), .lit (.bool c)]) : cs = [.string ⟨a.toArray⟩, .string ⟨b.toArray⟩, .bool c] := by
  obtain ⟨xs, n, -, rfl, hcl, hxl, hf⟩ := DataW.trod_struct Tryd.underlying132 h
  obtain ⟨u, v, z, rfl⟩ := three_of (hcl.trans cellsShape)
  match xs, hxl with
  | [x0, x1, x2], _ =>
    simp only [List.map_cons, List.map_nil, DataW.agg.injEq, List.cons.injEq, and_true] at hx
    obtain ⟨e0, e1, e2⟩ := hx
    have h0 : DataW.trod enc Tryd.prog w base spare held n 9 ([u, v, z].take (Tryd.prog.cellsOf 9)) = some x0 := hf 0 _ rfl
    have h1 : DataW.trod enc Tryd.prog w base spare held n 9 ([v, z].take (Tryd.prog.cellsOf 9)) = some x1 := hf 1 _ rfl
    have h2 : DataW.trod enc Tryd.prog w base spare held n 4 ([z].take (Tryd.prog.cellsOf 4)) = some x2 := hf 2 _ rfl
    rw [show Tryd.prog.cellsOf 9 = 1 by kernel_rfl] at h0 h1
    rw [show Tryd.prog.cellsOf 4 = 1 by kernel_rfl] at h2
    obtain ⟨s0, q0, r0, -⟩ := DataW.trod_string Tryd.underlying9 h0
    obtain ⟨s1, q1, r1, -⟩ := DataW.trod_string Tryd.underlying9 h1
    obtain ⟨s2, q2, r2⟩ := DataW.trod_bool Tryd.underlying4 h2
    simp only [List.take_succ_cons, List.take_zero, List.cons.injEq, and_true] at q0 q1 q2
    subst q0 q1 q2 r0 r1 r2
    simp only [DataW.lit.injEq, Lit.string.injEq, Lit.bool.injEq] at e0 e1 e2
    rw [bytes_ext e0, bytes_ext e1, e2]
end
theorem cell_of_var {W : World} {cs : List Value} (hv : W.var? Tryd.prog "padlock/codes.shapes" = some cs.toArray) (i : Nat) (v : Value) (h : cs[i]? = some v) : W.cell? ⟨0, i, none⟩ = some v := by
  rw [World.var?_cell gTab hv i]
  simpa using h
theorem heap_pos {W : World} {v : Value} {b i : Nat} (h : W.cell? ⟨b, i, none⟩ = some v) : b < W.heap.size := by
  rcases Nat.lt_or_ge b W.heap.size with h' | h'
  · exact h'
  · simp [World.cell?, Array.getElem?_eq_none h'] at h
theorem list_parts (cs : List Value) (h : cs.length = 21) (l : List (List Value)) (hl : l.length = 7) (hc : ∀ i, i < 7 → (cs.drop (i * 3)).take 3 = l[i]?.getD []) : cs = l.flatten := by
  match l, hl with
  | [a, b, c, d, e, f, g], _ =>
    have h0 := hc 0 (by decide)
    have h1 := hc 1 (by decide)
    have h2 := hc 2 (by decide)
    have h3 := hc 3 (by decide)
    have h4 := hc 4 (by decide)
    have h5 := hc 5 (by decide)
    have h6 := hc 6 (by decide)
    simp only [List.getElem?_cons_zero, List.getElem?_cons_succ, Option.getD_some] at h0 h1 h2 h3 h4 h5 h6
    simp only [List.flatten_cons, List.flatten_nil, List.append_nil]
    rw [← h0, ← h1, ← h2, ← h3, ← h4, ← h5, ← h6]
    match cs, h with
    | [_, _, _, _, _, _, _, _, _, _, _, _, _, _, _, _, _, _, _, _, _], _ => rfl
/-- what the row's list gives -/
theorem tab_of {W : World} (h : laidMet Tryd.prog [("padlock/codes.shapes", Rows.laid_padlock_codes_shapes)] W) : Tab W := by
  obtain ⟨ps, ⟨g', t', cs, fuel, p, q, hg', ht', hvar, hd, _, _⟩, _⟩ := h
  obtain rfl := Option.some.inj (gTab.symm.trans hg')
  obtain rfl := Option.some.inj (gTabType.symm.trans ht')
  obtain ⟨xs, m, -, hx, hcl, hxl, hat⟩ := DataW.trod_array Tryd.underlying133 hd
  rw [cellsTab] at hcl
  rw [cellsShape] at hat
  have hx1 := congrArg Prod.fst hx
  simp only [Rows.laid_padlock_codes_shapes, DataW.agg.injEq] at hx1
  match xs, hxl with
  | [x0, x1, x2, x3, x4, x5, x6], _ =>
    simp only [List.map_cons, List.map_nil, List.cons.injEq, and_true] at hx1
    obtain ⟨e0, e1, e2, e3, e4, e5, e6⟩ := hx1
    have c0 := shape_cells (hat 0 (by decide)) e0.symm
    have c1 := shape_cells (hat 1 (by decide)) e1.symm
    have c2 := shape_cells (hat 2 (by decide)) e2.symm
    have c3 := shape_cells (hat 3 (by decide)) e3.symm
    have c4 := shape_cells (hat 4 (by decide)) e4.symm
    have c5 := shape_cells (hat 5 (by decide)) e5.symm
    have c6 := shape_cells (hat 6 (by decide)) e6.symm
    have hcs := list_parts cs.toList hcl [_, _, _, _, _, _, _] rfl (fun i hi => by
      match i, hi with
      | 0, _ => exact c0
      | 1, _ => exact c1
      | 2, _ => exact c2
      | 3, _ => exact c3
      | 4, _ => exact c4
      | 5, _ => exact c5
      | 6, _ => exact c6)
    have hv : W.var? Tryd.prog "padlock/codes.shapes" = some cs.toList.toArray := by simpa using hvar
    rw [hcs] at hv
    have hc : ∀ (i : Nat) (v : Value), tabCells[i]? = some v → W.cell? ⟨0, i, none⟩ = some v := fun i v h => cell_of_var hv i v h
    exact ⟨heap_pos (hc 0 _ rfl), hc⟩
end Go.Proofs.YtadbkoioipjgmaaDoor
