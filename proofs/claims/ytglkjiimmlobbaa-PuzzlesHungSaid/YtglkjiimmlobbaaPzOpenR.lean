/-
  ARGUMENTS OPENED: a list of sentences about portraits.
-/
import Derived.Test.YtglkjiimmlobbaaPzPor
namespace Go.Proofs.Ytglkjiimmlobbaa
open Go.ChangeShapes Go.WideShapes Go.ChangeAt Go.RowKit Go.Joins Go.Deep
section
variable {H : Type} {enc : TypeId × Value → H} {W : World} {fuel : Nat}
theorem cellsPor : Try.prog.cellsOf 71 = 5 := by kernel_rfl
theorem cellsBoolR : Try.prog.cellsOf 4 = 1 := by kernel_rfl
theorem add_plainR (g o k : Nat) : (⟨g, o, none⟩ : Addr).add k = ⟨g, o + k, none⟩ := by unfold Addr.add; split <;> simp_all
set_option maxRecDepth 100000 in
theorem open_por_cells {cs : List Value} {x : DataW H × List MemPlace} (h : DataW.trod enc Try.prog W 0 (fun _ => true) true fuel 71 cs = some x) :
    ∃ (c : Por), cs = (porC c).toList := by
  obtain ⟨xs, n, -, rfl, hcl, hxl, hf⟩ := DataW.trod_struct Try.underlying71 h
  obtain ⟨v0, v1, v2, v3, v4, rfl⟩ := five_of (hcl.trans cellsPor)
  match xs, hxl with
  | [x0, x1, x2, x3, x4], _ =>
    have h0 : DataW.trod enc Try.prog W 0 (fun _ => true) true n 3 ([v0, v1, v2, v3, v4].take (Try.prog.cellsOf 3)) = some x0 := hf 0 _ rfl
    have h1 : DataW.trod enc Try.prog W 0 (fun _ => true) true n 3 ([v1, v2, v3, v4].take (Try.prog.cellsOf 3)) = some x1 := hf 1 _ rfl
    have h2 : DataW.trod enc Try.prog W 0 (fun _ => true) true n 3 ([v2, v3, v4].take (Try.prog.cellsOf 3)) = some x2 := hf 2 _ rfl
    have h3 : DataW.trod enc Try.prog W 0 (fun _ => true) true n 3 ([v3, v4].take (Try.prog.cellsOf 3)) = some x3 := hf 3 _ rfl
    have h4 : DataW.trod enc Try.prog W 0 (fun _ => true) true n 4 ([v4].take (Try.prog.cellsOf 4)) = some x4 := hf 4 _ rfl
    rw [cellsInt] at h0 h1 h2 h3
    rw [cellsBoolR] at h4
    obtain ⟨n0, q0, -, -⟩ := DataW.trod_int Try.underlying3 h0
    obtain ⟨n1, q1, -, -⟩ := DataW.trod_int Try.underlying3 h1
    obtain ⟨n2, q2, -, -⟩ := DataW.trod_int Try.underlying3 h2
    obtain ⟨n3, q3, -, -⟩ := DataW.trod_int Try.underlying3 h3
    obtain ⟨b, q4, -⟩ := DataW.trod_bool Try.underlying4 h4
    simp only [List.take_succ_cons, List.take_zero, List.cons.injEq, and_true] at q0 q1 q2 q3 q4
    subst q0 q1 q2 q3 q4
    exact ⟨⟨n0, n1, n2, n3, b⟩, rfl⟩

set_option maxRecDepth 100000 in
theorem open_pors {r : Reach} {b0 : Nat} {v : Value} {d : DataW H} {p : List MemPlace} (hv : Value.okWide Try.prog W r b0 56 v) (h : DataW.Trod enc Try.prog W 0 (fun _ => true) true 56 v d p) :
    ∃ (A : Option Addr) (c : Nat) (ps : List Por), v = .slice A ps.length c ∧ PorR W W.heap.size A ps ∧ ps.length ≤ maxLen := by
  obtain ⟨a0, len, cap, rfl⟩ := okWide_slice Try.underlying56 hv
  obtain ⟨fuel, hf⟩ := h
  rcases open_slice Try.underlying56 hf with ⟨hcs, _⟩ | ⟨a, len', cap', m, n, D, Pl, hcs, _, hl, hm, hmm, _, hi⟩
  · simp [Value.cells] at hcs
    obtain ⟨rfl, rfl, rfl⟩ := hcs
    exact ⟨none, 0, [], rfl, fun h => absurd h (Nat.lt_irrefl 0), Nat.zero_le _⟩
  · simp [Value.cells] at hcs
    obtain ⟨rfl, rfl, rfl⟩ := hcs
    simp only [if_true] at hmm
    rw [cellsPor] at hi
    have each : ∀ i, i < m → ∃ (c : Por), (∀ j v, (porC c)[j]? = some v → W.cell? (a.add (i * 5 + j)) = some v) := fun i hi' => by
      obtain ⟨cs', h1, h2⟩ := hi i hi'
      obtain ⟨c, e⟩ := open_por_cells h2
      obtain ⟨-, hlen, hc⟩ := World.cells?_some h1
      refine ⟨c, fun j v hv => ?_⟩
      have hj : j < 5 := (Array.getElem?_eq_some_iff.1 hv).1
      rw [← add_add, hc j hj, e]
      simpa using hv
    let f : Nat → Por := fun i => if h : i < m then Classical.choose (each i h) else ⟨0, 0, 0, 0, false⟩
    have hfl : ((List.range len).map f).length = len := by simp
    refine ⟨some a, cap, (List.range len).map f, by rw [hfl], fun h0 => ?_, by rw [hfl]; omega⟩
    rw [hfl] at h0
    obtain ⟨c0, hc0⟩ := each 0 (by omega)
    have hz := hc0 0 _ rfl
    obtain ⟨g, o, sp⟩ := a
    have hsp : sp = none := by simpa [Addr.add] using World.cell?_spot hz
    subst hsp
    refine ⟨g, o, rfl, ?_, fun j hj => ?_⟩
    · have := heap_pos hz
      rwa [block_of_add] at this
    · have hj' : j < len := by rwa [hfl] at hj
      have hjm : j < m := by omega
      have hs := Classical.choose_spec (each j hjm)
      have e : ((List.range len).map f)[j] = Classical.choose (each j hjm) := by simp [f, hjm]
      rw [e]
      intro i v hv
      have := hs i v hv
      rwa [add_plainR, ← Nat.add_assoc] at this
end
end Go.Proofs.Ytglkjiimmlobbaa
