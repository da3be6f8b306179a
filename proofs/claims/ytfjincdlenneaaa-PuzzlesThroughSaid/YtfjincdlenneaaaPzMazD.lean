/-
  WHAT IS SHARED by the contracts of mazes: the struct, a valid maze. (Written by gen/gen_mchk.py.)
-/
import Derived.Test.YtfjincdlenneaaaPzMazR
namespace Go.Proofs.Ytfjincdlenneaaa
open Go.RowKit Go.Shelf
theorem bcellM {w w1 : World} (h : Below w.heap.size w w1) : (∀ b o, b < w.heap.size → w1.cell? ⟨b, o, none⟩ = w.cell? ⟨b, o, none⟩) ∧ (∀ b o, b < w.heap.size → w1.frozen? ⟨b, o, none⟩ = w.frozen? ⟨b, o, none⟩) :=
  ⟨fun b o hb => h.cell (p := ⟨b, o, none⟩) hb, fun b o hb => h.frozen (p := ⟨b, o, none⟩) hb⟩
abbrev mazW (W H fr tt : Int) (A : Option Addr) (n cap : Nat) : Value := .agg #[I W, I H, I fr, I tt, .slice A n cap]
/-- a valid maze -/
def mazB (W H fr tt : Int) (n : Nat) (wall : Nat → Bool) : Bool := gridM W H fr tt && (((n : Int) == W * H) && (!wall fr.toNat && !wall tt.toNat))
theorem gridM_in {W H fr tt : Int} (h : gridM W H fr tt = true) : 1 ≤ W ∧ W ≤ 64 ∧ 1 ≤ H ∧ H ≤ 64 ∧ W * H ≤ 64 ∧ 0 ≤ fr ∧ fr < W * H ∧ 0 ≤ tt ∧ tt < W * H := by
  simp [gridM, wi] at h
  omega
end Go.Proofs.Ytfjincdlenneaaa
