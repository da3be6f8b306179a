/-
  ARGUMENTS OPENED: a clue; a list of clues.
-/
import Derived.Test.YtadbkoioipjgmaaDoorPost
import Derived.Deep.Slices
namespace Go.Proofs.YtadbkoioipjgmaaDoor
open Go.ChangeShapes Go.WideShapes Go.ChangeAt Go.RowKit Go.Joins Go.Deep
set_option maxRecDepth 100000
section
variable {H : Type} {enc : TypeId × Value → H} {W : World} {fuel : Nat}
/-- a slice of integers, by its one cell -/
theorem open_ints_cells {cs : List Value} {x : DataW H × List MemPlace} (hf : DataW.trod enc Tryd.prog W 0 (fun _ => true) true fuel 24 cs = some x) :
    ∃ (A : Option Addr) (c : Nat) (xs : List Int), cs = [.slice A xs.length c] ∧ IntsR W W.heap.size A xs ∧ xs.length ≤ maxLen := by
  rcases open_ints Tryd.underlying24 Tryd.underlying3 cellsInt hf with ⟨rfl, _⟩ | ⟨a, len, cap, zs, rfl, _, hl, hm, hz, _, hcell, _⟩
  · exact ⟨none, 0, [], rfl, fun h => absurd h (Nat.lt_irrefl 0), Nat.zero_le _⟩
  · simp only [if_true] at hz
    have hlen : (zs.take len).length = len := by simp; omega
    refine ⟨some a, cap, zs.take len, by rw [hlen], fun h0 => ⟨a, rfl, ?_, fun j hj => ?_⟩, by rw [hlen]; omega⟩
    · have := heap_pos' (hcell 0 (by omega))
      rwa [block_of_add] at this
    · rw [hlen] at hj
      rw [hcell j (by omega)]
      simp [nth, hj, List.getD]
theorem cellsClue : Tryd.prog.cellsOf 26 = 7 := by kernel_rfl
theorem cellsSl : Tryd.prog.cellsOf 24 = 1 := by kernel_rfl
theorem cellsBool : Tryd.prog.cellsOf 4 = 1 := by kernel_rfl
theorem seven_of {cs : List Value} (h : cs.length = 7) : ∃ a b c d e f g, cs = [a, b, c, d, e, f, g] := by
  match cs, h with
  | [a, b, c, d, e, f, g], _ => exact ⟨a, b, c, d, e, f, g, rfl⟩
/-- a clue, by its cells -/
theorem open_clue_cells {cs : List Value} {x : DataW H × List MemPlace} (h : DataW.trod enc Tryd.prog W 0 (fun _ => true) true fuel 26 cs = some x) :
    ∃ (c : Cl) (A : Option Addr) (cap : Nat), cs = (clArr c A cap).toList ∧ IntsR W W.heap.size A c.guess ∧ c.guess.length ≤ maxLen := by
  obtain ⟨xs, n, -, rfl, hcl, hxl, hf⟩ := DataW.trod_struct Tryd.underlying26 h
  obtain ⟨v0, v1, v2, v3, v4, v5, v6, rfl⟩ := seven_of (hcl.trans cellsClue)
  match xs, hxl with
  | [x0, x1, x2, x3, x4, x5, x6], _ =>
    have h0 : DataW.trod enc Tryd.prog W 0 (fun _ => true) true n 3 ([v0, v1, v2, v3, v4, v5, v6].take (Tryd.prog.cellsOf 3)) = some x0 := hf 0 _ rfl
    have h1 : DataW.trod enc Tryd.prog W 0 (fun _ => true) true n 3 ([v1, v2, v3, v4, v5, v6].take (Tryd.prog.cellsOf 3)) = some x1 := hf 1 _ rfl
    have h2 : DataW.trod enc Tryd.prog W 0 (fun _ => true) true n 3 ([v2, v3, v4, v5, v6].take (Tryd.prog.cellsOf 3)) = some x2 := hf 2 _ rfl
    have h3 : DataW.trod enc Tryd.prog W 0 (fun _ => true) true n 3 ([v3, v4, v5, v6].take (Tryd.prog.cellsOf 3)) = some x3 := hf 3 _ rfl
    have h4 : DataW.trod enc Tryd.prog W 0 (fun _ => true) true n 3 ([v4, v5, v6].take (Tryd.prog.cellsOf 3)) = some x4 := hf 4 _ rfl
    have h5 : DataW.trod enc Tryd.prog W 0 (fun _ => true) true n 24 ([v5, v6].take (Tryd.prog.cellsOf 24)) = some x5 := hf 5 _ rfl
    have h6 : DataW.trod enc Tryd.prog W 0 (fun _ => true) true n 4 ([v6].take (Tryd.prog.cellsOf 4)) = some x6 := hf 6 _ rfl
    rw [cellsInt] at h0 h1 h2 h3 h4
    rw [cellsSl] at h5
    rw [cellsBool] at h6
    obtain ⟨n0, q0, -, -⟩ := DataW.trod_int Tryd.underlying3 h0
    obtain ⟨n1, q1, -, -⟩ := DataW.trod_int Tryd.underlying3 h1
    obtain ⟨n2, q2, -, -⟩ := DataW.trod_int Tryd.underlying3 h2
    obtain ⟨n3, q3, -, -⟩ := DataW.trod_int Tryd.underlying3 h3
    obtain ⟨n4, q4, -, -⟩ := DataW.trod_int Tryd.underlying3 h4
    obtain ⟨A, c, g, q5, hg, lg⟩ := open_ints_cells h5
    obtain ⟨b, q6, -⟩ := DataW.trod_bool Tryd.underlying4 h6
    simp only [List.take_succ_cons, List.take_zero, List.cons.injEq, and_true] at q0 q1 q2 q3 q4 q5 q6
    subst q0 q1 q2 q3 q4 q5 q6
    exact ⟨⟨n0, n1, n2, n3, n4, g, b⟩, A, c, rfl, hg, lg⟩
/-- a clue by value -/
theorem open_clue {r : Reach} {b0 : Nat} {v : Value} {d : DataW H} {p : List MemPlace} (hv : Value.okWide Tryd.prog W r b0 26 v) (h : DataW.Trod enc Tryd.prog W 0 (fun _ => true) true 26 v d p) :
    ∃ (c : Cl) (A : Option Addr) (cap : Nat), v = clV c A cap ∧ IntsR W W.heap.size A c.guess ∧ c.guess.length ≤ maxLen := by
  obtain ⟨cs, rfl, -⟩ := okWide_struct Tryd.underlying26 hv
  obtain ⟨fuel, hf⟩ := h
  obtain ⟨c, A, cap, e, h1, h2⟩ := open_clue_cells hf
  refine ⟨c, A, cap, ?_, h1, h2⟩
  have : cs = clArr c A cap := by
    apply Array.toList_inj.1
    simpa [Value.cells] using e
  rw [this]
  rfl
/-- a list of clues -/
theorem open_clues {r : Reach} {b0 : Nat} {v : Value} {d : DataW H} {p : List MemPlace} (hv : Value.okWide Tryd.prog W r b0 38 v) (h : DataW.Trod enc Tryd.prog W 0 (fun _ => true) true 38 v d p) :
    ∃ (A : Option Addr) (c : Nat) (cs : List Cl), v = .slice A cs.length c ∧ ClsR W W.heap.size A cs ∧ cs.length ≤ maxLen := by
  obtain ⟨a0, len, cap, rfl⟩ := okWide_slice Tryd.underlying38 hv
  obtain ⟨fuel, hf⟩ := h
  rcases open_slice Tryd.underlying38 hf with ⟨hcs, _⟩ | ⟨a, len', cap', m, n, D, Pl, hcs, _, hl, hm, hmm, _, hi⟩
  · simp [Value.cells] at hcs
    obtain ⟨rfl, rfl, rfl⟩ := hcs
    exact ⟨none, 0, [], rfl, fun h => absurd h (Nat.lt_irrefl 0), Nat.zero_le _⟩
  · simp [Value.cells] at hcs
    obtain ⟨rfl, rfl, rfl⟩ := hcs
    simp only [if_true] at hmm
    rw [cellsClue] at hi
    have each : ∀ i, i < m → ∃ (c : Cl) (A : Option Addr) (k : Nat), (∀ j v, (clArr c A k)[j]? = some v → W.cell? (a.add (i * 7 + j)) = some v) ∧ IntsR W W.heap.size A c.guess ∧ c.guess.length ≤ maxLen := fun i hi' => by
      obtain ⟨cs', h1, h2⟩ := hi i hi'
      obtain ⟨c, A, k, e, hg, lg⟩ := open_clue_cells h2
      obtain ⟨-, hlen, hc⟩ := World.cells?_some h1
      refine ⟨c, A, k, fun j v hv => ?_, hg, lg⟩
      have hj : j < 7 := (Array.getElem?_eq_some_iff.1 hv).1
      rw [← add_add, hc j hj, e]
      simpa using hv
    let f : Nat → Cl := fun i => if h : i < m then Classical.choose (each i h) else ⟨0, 0, 0, 0, 0, [], false⟩
    have hfl : ((List.range len).map f).length = len := by simp
    refine ⟨some a, cap, (List.range len).map f, by rw [hfl], fun h0 => ?_, by rw [hfl]; omega⟩
    rw [hfl] at h0
    obtain ⟨c0, A0, k0, hc0, -, -⟩ := each 0 (by omega)
    have hz := hc0 0 _ rfl
    obtain ⟨g, o, sp⟩ := a
    have hsp : sp = none := by simpa [Addr.add] using World.cell?_spot hz
    subst hsp
    refine ⟨g, o, rfl, ?_, fun j hj => ?_⟩
    · have := heap_pos' hz
      rwa [block_of_add] at this
    · have hj' : j < len := by rwa [hfl] at hj
      have hjm : j < m := by omega
      have hs := Classical.choose_spec (each j hjm)
      have e : ((List.range len).map f)[j] = Classical.choose (each j hjm) := by simp [f, hjm]
      rw [e]
      obtain ⟨A, k, h1, h2, h3⟩ := hs
      refine ⟨A, k, fun i v hv => ?_, h2, h3⟩
      have := h1 i v hv
      rwa [add_plain, ← Nat.add_assoc] at this
end
end Go.Proofs.YtadbkoioipjgmaaDoor
