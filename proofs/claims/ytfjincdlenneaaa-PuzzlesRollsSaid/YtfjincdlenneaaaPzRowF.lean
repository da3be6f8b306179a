/-
  ROWS OF VALUES that a function gives: made, read, stored into.
-/
import Derived.Test.YtfjincdlenneaaaPzWat
namespace Go.Proofs.Ytfjincdlenneaaa
open Go.RowKit Go.Shelf
/-- a row of n values -/
def rowF (f : Nat → Value) (n : Nat) : Array Value := ((List.range n).map f).toArray
theorem rowF_at (f : Nat → Value) {n i : Nat} (h : i < n) : (rowF f n)[i]? = some (f i) := by simp [rowF, h]
theorem rowF_get (f : Nat → Value) (n i : Nat) : (rowF f n)[i]? = if i < n then some (f i) else none := by
  by_cases h : i < n
  · rw [if_pos h, rowF_at f h]
  · rw [if_neg h]; simp [rowF]; omega
theorem rowF_size (f : Nat → Value) (n : Nat) : (rowF f n).size = n := by simp [rowF]
theorem rowF_set (f : Nat → Value) (n k : Nat) (v : Value) : (rowF f n).setIfInBounds k v = rowF (fun x => if x = k then v else f x) n := by
  apply Array.ext_getElem?
  intro i
  rw [Array.getElem?_setIfInBounds, rowF_get, rowF_get, rowF_size]
  by_cases h : k = i
  · subst h
    by_cases h2 : k < n
    · simp [h2]
    · simp [h2]
  · rw [if_neg h]
    by_cases h2 : i < n
    · rw [if_pos h2, if_pos h2, if_neg (fun e : i = k => h e.symm)]
    · rw [if_neg h2, if_neg h2]
theorem rowF_congr {f g : Nat → Value} {n : Nat} (h : ∀ i, i < n → f i = g i) : rowF f n = rowF g n := by
  apply Array.ext (by simp [rowF])
  intro i h1 h2
  have hi : i < n := by simpa [rowF] using h1
  simp [rowF, h i hi]
theorem rowF_rep (v : Value) (n : Nat) : Array.replicate n v = rowF (fun _ => v) n := by
  apply Array.ext (by simp [rowF])
  intro i h1 h2
  simp [rowF]
theorem madeF (v : Value) (n : Nat) : madeCells #[v] n = rowF (fun _ => v) n := by
  apply Array.ext (by simp [size_madeCells, rowF])
  intro i h1 h2
  rw [size_madeCells] at h1
  simp [madeCells, Nat.mod_one, rowF]
/-- a row in block g -/
def RowAt (w : World) (g : Nat) (t : TypeId) (f : Nat → Value) (n : Nat) : Prop := w.heap[g]? = some (.cells (rowF f n) t (0, 0))
theorem RowAt.at_ {w : World} {g : Nat} {t : TypeId} {f : Nat → Value} {n i : Nat} (h : RowAt w g t f n) (hi : i < n) : w.cell? ⟨g, i, none⟩ = some (f i) :=
  (cell_of_row w g i _ _ _ h).trans (rowF_at f hi)
theorem RowAt.free {w : World} {g : Nat} {t : TypeId} {f : Nat → Value} {n : Nat} (h : RowAt w g t f n) (i : Nat) : w.frozen? ⟨g, i, none⟩ = false := frozen_of_row h i
theorem RowAt.set {w : World} {g : Nat} {t : TypeId} {f : Nat → Value} {n : Nat} (h : RowAt w g t f n) (k : Nat) (v : Value) : RowAt (w.setCell ⟨g, k, none⟩ v) g t (fun x => if x = k then v else f x) n := by
  have := row_set h k v
  rw [rowF_set] at this
  exact this
theorem RowAt.lt {w : World} {g : Nat} {t : TypeId} {f : Nat → Value} {n : Nat} (h : RowAt w g t f n) : g < w.heap.size := row_lt' h
theorem RowAt.congr {w : World} {g : Nat} {t : TypeId} {f f' : Nat → Value} {n : Nat} (h : RowAt w g t f n) (e : ∀ i, i < n → f i = f' i) : RowAt w g t f' n := by
  rw [RowAt, ← rowF_congr e]; exact h
theorem info_bool : (Try.prog.info? 4).map (fun i => (i.zero, i.size, i.bytes)) = some (some (.bool false), 1, 1) := by kernel_rfl
end Go.Proofs.Ytfjincdlenneaaa
