/-
  ARGUMENTS OPENED: a slice of integers as the row gives it, as a list that is read.
-/
import Derived.Test.YtglkjiimmlobbaaPzBase
namespace Go.Proofs.Ytglkjiimmlobbaa
open Go.RowKit
theorem heap_pos {W : World} {v : Value} {p : Addr} (h : W.cell? p = some v) : p.block < W.heap.size := by
  rcases Nat.lt_or_ge p.block W.heap.size with h' | h'
  · exact h'
  · simp [World.cell?, Array.getElem?_eq_none h'] at h
/-- what the row says of a slice of integers: it is nil, or it leads to a row of cells -/
def IsRow (k : IntKind) (w : World) (a : Option Addr) (len cap : Nat) (zs : List Int) : Prop :=
  (a = none ∧ len = 0 ∧ cap = 0 ∧ zs = []) ∨
  ∃ x, a = some x ∧ len ≤ cap ∧ cap ≤ maxLen ∧ zs.length = cap ∧ (∀ i, i < zs.length → w.cell? (x.add i) = some (.int k (zs.getD i 0))) ∧ ∀ n ∈ zs, (Lit.int k n).wf = true
theorem row_ints {w : World} {a : Option Addr} {len cap : Nat} {zs : List Int} (h : IsRow .i64 w a len cap zs) :
    ∃ xs : List Int, xs.length = len ∧ IntsR w w.heap.size a xs ∧ xs.length ≤ maxLen ∧ xs.length ≤ cap ∧ ∀ n ∈ xs, (Lit.int .i64 n).wf = true := by
  rcases h with ⟨rfl, rfl, rfl, rfl⟩ | ⟨x, rfl, hl, hm, hz, hc, hw⟩
  · exact ⟨[], rfl, IntsR.nil, Nat.zero_le _, Nat.zero_le _, fun n hn => by cases hn⟩
  · have hlen : (zs.take len).length = len := by rw [List.length_take]; omega
    refine ⟨zs.take len, hlen, fun h0 => ⟨x, rfl, ?_, fun j hj => ?_⟩, by omega, by omega, fun n hn => hw n (List.mem_of_mem_take hn)⟩
    · have := heap_pos (hc 0 (by omega))
      rwa [block_of_add] at this
    · rw [hc j (by omega)]
      congr 2
      simp only [nth]
      rw [List.getElem?_take_of_lt (by omega)]
      simp [List.getD_eq_getElem?_getD]
end Go.Proofs.Ytglkjiimmlobbaa
