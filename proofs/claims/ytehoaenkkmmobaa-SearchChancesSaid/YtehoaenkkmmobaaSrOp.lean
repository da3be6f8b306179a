/-
  LAYER 6, ARGUMENTS OPENED: a map (lists of positions, of which the number counts alone, and lists of edges), a list of numbers, a run.
-/
import Derived.Test.YtehoaenkkmmobaaSrAb
import Derived.OpenShut
import Derived.Deep.Grids
namespace Go.Proofs.Ytehoaenkkmmobaa
open Go.ChangeShapes Go.WideShapes Go.ChangeAt Go.RowKit Go.Joins Go.Deep
section
variable {H : Type} {enc : TypeId × Value → H} {W : World} {fuel : Nat}
theorem cellsMove : Try.prog.cellsOf 56 = 3 := by kernel_rfl
theorem cellsEdge : Try.prog.cellsOf 58 = 4 := by kernel_rfl
theorem cellsEdges : Try.prog.cellsOf 54 = 1 := by kernel_rfl
theorem cellsGraphs : Try.prog.cellsOf 23 = 1 := by kernel_rfl
theorem cellsPoss : Try.prog.cellsOf 22 = 1 := by kernel_rfl
theorem cellsGraph : Try.prog.cellsOf 25 = 2 := by kernel_rfl
theorem cellsMind : Try.prog.cellsOf 40 = 2 := by kernel_rfl
theorem cellsRun : Try.prog.cellsOf 42 = 3 := by kernel_rfl
theorem three_of {cs : List Value} (h : cs.length = 3) : ∃ a b c, cs = [a, b, c] := by
  match cs, h with
  | [a, b, c], _ => exact ⟨a, b, c, rfl⟩
theorem four_of {cs : List Value} (h : cs.length = 4) : ∃ a b c d, cs = [a, b, c, d] := by
  match cs, h with
  | [a, b, c, d], _ => exact ⟨a, b, c, d, rfl⟩
theorem two_of {cs : List Value} (h : cs.length = 2) : ∃ a b, cs = [a, b] := by
  match cs, h with
  | [a, b], _ => exact ⟨a, b, rfl⟩
set_option maxRecDepth 100000 in
theorem open_mv_cells {cs : List Value} {x : DataW H × List MemPlace} (h : DataW.trod enc Try.prog W 0 (fun _ => true) true fuel 56 cs = some x) : ∃ a b c : Int, cs = [I a, I b, I c] := by
  obtain ⟨xs, n, -, rfl, hcl, hxl, hf⟩ := DataW.trod_struct Try.underlying56 h
  obtain ⟨v0, v1, v2, rfl⟩ := three_of (hcl.trans cellsMove)
  match xs, hxl with
  | [x0, x1, x2], _ =>
    have h0 : DataW.trod enc Try.prog W 0 (fun _ => true) true n 3 ([v0, v1, v2].take (Try.prog.cellsOf 3)) = some x0 := hf 0 _ rfl
    have h1 : DataW.trod enc Try.prog W 0 (fun _ => true) true n 3 ([v1, v2].take (Try.prog.cellsOf 3)) = some x1 := hf 1 _ rfl
    have h2 : DataW.trod enc Try.prog W 0 (fun _ => true) true n 3 ([v2].take (Try.prog.cellsOf 3)) = some x2 := hf 2 _ rfl
    rw [cellsInt] at h0 h1 h2
    obtain ⟨n0, q0, -, -⟩ := DataW.trod_int Try.underlying3 h0
    obtain ⟨n1, q1, -, -⟩ := DataW.trod_int Try.underlying3 h1
    obtain ⟨n2, q2, -, -⟩ := DataW.trod_int Try.underlying3 h2
    simp only [List.take_succ_cons, List.take_zero, List.cons.injEq, and_true] at q0 q1 q2
    subst q0 q1 q2
    exact ⟨n0, n1, n2, rfl⟩
set_option maxRecDepth 100000 in
theorem open_ed_cells {cs : List Value} {x : DataW H × List MemPlace} (h : DataW.trod enc Try.prog W 0 (fun _ => true) true fuel 58 cs = some x) : ∃ c : Ed, cs = (edC c).toList := by
  obtain ⟨xs, n, -, rfl, hcl, hxl, hf⟩ := DataW.trod_struct Try.underlying58 h
  obtain ⟨v0, v1, v2, v3, rfl⟩ := four_of (hcl.trans cellsEdge)
  match xs, hxl with
  | [x0, x1], _ =>
    have h0 : DataW.trod enc Try.prog W 0 (fun _ => true) true n 56 ([v0, v1, v2, v3].take (Try.prog.cellsOf 56)) = some x0 := hf 0 _ rfl
    have h1 : DataW.trod enc Try.prog W 0 (fun _ => true) true n 3 (([v0, v1, v2, v3].drop (Try.prog.cellsOf 56)).take (Try.prog.cellsOf 3)) = some x1 := hf 1 _ rfl
    rw [cellsMove] at h0 h1
    rw [cellsInt] at h1
    obtain ⟨n0, n1, n2, q0⟩ := open_mv_cells h0
    obtain ⟨n3, q3, -, -⟩ := DataW.trod_int Try.underlying3 h1
    simp only [List.take_succ_cons, List.take_zero, List.drop_succ_cons, List.drop_zero, List.cons.injEq, and_true] at q0 q3
    obtain ⟨rfl, rfl, rfl⟩ := q0
    subst q3
    exact ⟨⟨n0, n1, n2, n3⟩, rfl⟩
theorem open_eds_cells {cs : List Value} {x : DataW H × List MemPlace} (hf : DataW.trod enc Try.prog W 0 (fun _ => true) true fuel 54 cs = some x) :
    ∃ (A : Option Addr) (c : Nat) (es : List Ed), cs = [.slice A es.length c] ∧ EdR W W.heap.size A es ∧ es.length ≤ maxLen := by
  rcases open_slice Try.underlying54 hf with ⟨rfl, _⟩ | ⟨a, len, cap, m, n, D, Pl, rfl, _, hl, hm, hmm, _, hi⟩
  · exact ⟨none, 0, [], rfl, fun h => absurd h (Nat.lt_irrefl 0), Nat.zero_le _⟩
  · simp only [if_true] at hmm
    rw [cellsEdge] at hi
    have each : ∀ i, i < m → ∃ (c : Ed), (∀ j v, (edC c)[j]? = some v → W.cell? (a.add (i * 4 + j)) = some v) := fun i hi' => by
      obtain ⟨cs', h1, h2⟩ := hi i hi'
      obtain ⟨c, e⟩ := open_ed_cells h2
      obtain ⟨-, hlen, hc⟩ := World.cells?_some h1
      refine ⟨c, fun j v hv => ?_⟩
      have hj : j < 4 := (Array.getElem?_eq_some_iff.1 hv).1
      rw [← add_add, hc j hj, e]
      simpa using hv
    let f : Nat → Ed := fun i => if h : i < m then Classical.choose (each i h) else ⟨0, 0, 0, 0⟩
    have hfl : ((List.range len).map f).length = len := by simp
    refine ⟨some a, cap, (List.range len).map f, by rw [hfl], fun h0 => ?_, by rw [hfl]; omega⟩
    rw [hfl] at h0
    obtain ⟨c0, hc0⟩ := each 0 (by omega)
    have hp := heap_pos (hc0 0 _ rfl)
    rw [block_of_add] at hp
    have hplain : ∃ g o : Nat, a = ⟨g, o, none⟩ := by
      obtain ⟨g, o, sp⟩ := a
      have hsp : sp = none := by simpa [Addr.add] using World.cell?_spot (hc0 0 _ rfl)
      subst hsp
      exact ⟨g, o, rfl⟩
    obtain ⟨g, o, rfl⟩ := hplain
    refine ⟨g, o, rfl, hp, fun j hj i v hv => ?_⟩
    rw [hfl] at hj
    have h3 := Classical.choose_spec (each j (by omega))
    have h4 := h3 i v (by
      have : ((List.range len).map f)[j] = f j := by simp
      rw [this] at hv
      simpa [f, show j < m by omega] using hv)
    rwa [show (⟨g, o, none⟩ : Addr).add (j * 4 + i) = ⟨g, o + j * 4 + i, none⟩ by unfold Addr.add; split <;> simp_all [Nat.add_assoc]] at h4
theorem plainAdd (g o j : Nat) : (⟨g, o, none⟩ : Addr).add j = ⟨g, o + j, none⟩ := by unfold Addr.add; split <;> simp_all
theorem open_gr_cells {cs : List Value} {x : DataW H × List MemPlace} (hf : DataW.trod enc Try.prog W 0 (fun _ => true) true fuel 23 cs = some x) :
    ∃ (A : Option Addr) (c : Nat) (G : List (List Ed)), cs = [.slice A G.length c] ∧ GrR W W.heap.size A G ∧ G.length ≤ maxLen ∧ ∀ es ∈ G, es.length ≤ maxLen := by
  rcases open_slice1 Try.underlying23 cellsEdges hf with ⟨rfl, _⟩ | ⟨a, len, cap, m, n, V, D, Pl, rfl, _, hl, hm, hmm, _, hx⟩
  · exact ⟨none, 0, [], rfl, fun h => absurd h (Nat.lt_irrefl 0), Nat.zero_le _, fun es h => by cases h⟩
  · simp only [if_true] at hmm
    have each : ∀ i, i < m → ∃ (y : Option Addr × Nat × List Ed), V i = .slice y.1 y.2.2.length y.2.1 ∧ EdR W W.heap.size y.1 y.2.2 ∧ y.2.2.length ≤ maxLen := fun i hi' => by
      obtain ⟨A, c, es, e, h1, h2⟩ := open_eds_cells (hx i hi').2
      exact ⟨(A, c, es), by simpa using e, h1, h2⟩
    let f : Nat → List Ed := fun i => if h : i < m then (Classical.choose (each i h)).2.2 else []
    have hfl : ((List.range len).map f).length = len := by simp
    have hfi : ∀ j (h : j < ((List.range len).map f).length), ((List.range len).map f)[j] = f j := fun j h => by simp
    refine ⟨some a, cap, (List.range len).map f, by rw [hfl], fun h0 => ?_, by rw [hfl]; omega, fun es he => ?_⟩
    · rw [hfl] at h0
      have hc0 := (hx 0 (by omega)).1
      have hp := heap_pos hc0
      rw [block_of_add] at hp
      have hplain : ∃ g o : Nat, a = ⟨g, o, none⟩ := by
        obtain ⟨g, o, sp⟩ := a
        have hsp : sp = none := by simpa [Addr.add] using World.cell?_spot hc0
        subst hsp
        exact ⟨g, o, rfl⟩
      obtain ⟨g, o, rfl⟩ := hplain
      refine ⟨g, o, rfl, hp, fun j hj => ?_⟩
      have hj' : j < len := by rw [hfl] at hj; exact hj
      have hjm : j < m := by omega
      have hs := Classical.choose_spec (each j hjm)
      have e : f j = (Classical.choose (each j hjm)).2.2 := by simp [f, hjm]
      rw [hfi j hj, e]
      refine ⟨_, (Classical.choose (each j hjm)).2.1, ?_, hs.2.1⟩
      have hc := (hx j hjm).1
      rw [hs.1, plainAdd] at hc
      exact hc
    · obtain ⟨j, hj, rfl⟩ := List.mem_map.1 he
      have hjm : j < m := by have := List.mem_range.1 hj; omega
      have hs := Classical.choose_spec (each j hjm)
      have e : f j = (Classical.choose (each j hjm)).2.2 := by simp [f, hjm]
      rw [e]
      exact hs.2.2
theorem open_pos_cells {cs : List Value} {x : DataW H × List MemPlace} (hf : DataW.trod enc Try.prog W 0 (fun _ => true) true fuel 22 cs = some x) :
    ∃ (A : Option Addr) (n c : Nat), cs = [.slice A n c] ∧ n ≤ maxLen := by
  rcases open_slice Try.underlying22 hf with ⟨rfl, _⟩ | ⟨a, len, cap, m, n, D, Pl, rfl, _, hl, hm, hmm, _, hi⟩
  · exact ⟨none, 0, 0, rfl, Nat.zero_le _⟩
  · simp only [if_true] at hmm
    exact ⟨some a, len, cap, rfl, by omega⟩
set_option maxRecDepth 100000 in
theorem open_graph {r : Reach} {b0 : Nat} {v : Value} {d : DataW H} {p : List MemPlace} (hv : Value.okWide Try.prog W r b0 25 v) (h : DataW.Trod enc Try.prog W 0 (fun _ => true) true 25 v d p) :
    ∃ (AP AE : Option Addr) (nP cP cE : Nat) (G : List (List Ed)), v = grV AP AE nP cP G.length cE ∧ GrR W W.heap.size AE G ∧ nP ≤ maxLen ∧ G.length ≤ maxLen ∧ ∀ es ∈ G, es.length ≤ maxLen := by
  obtain ⟨cs, rfl, -⟩ := okWide_struct Try.underlying25 hv
  obtain ⟨fuel, hf⟩ := h
  obtain ⟨xs, n, -, -, hcl, hxl, hf⟩ := DataW.trod_struct Try.underlying25 hf
  obtain ⟨v0, v1, e⟩ := two_of (hcl.trans cellsGraph)
  rw [e] at hf
  match xs, hxl with
  | [x0, x1], _ =>
    have h0 : DataW.trod enc Try.prog W 0 (fun _ => true) true n 22 ([v0, v1].take (Try.prog.cellsOf 22)) = some x0 := hf 0 _ rfl
    have h1 : DataW.trod enc Try.prog W 0 (fun _ => true) true n 23 (([v0, v1].drop (Try.prog.cellsOf 22)).take (Try.prog.cellsOf 23)) = some x1 := hf 1 _ rfl
    rw [cellsPoss] at h0 h1
    rw [cellsGraphs] at h1
    obtain ⟨AP, nP, cP, e0, l0⟩ := open_pos_cells h0
    obtain ⟨AE, cE, G, e1, hG, l1, l2⟩ := open_gr_cells h1
    refine ⟨AP, AE, nP, cP, cE, G, ?_, hG, l0, l1, l2⟩
    simp only [List.take_succ_cons, List.take_zero, List.drop_succ_cons, List.drop_zero, List.cons.injEq, and_true] at e0 e1
    subst e0 e1
    have : cs = #[.slice AP nP cP, .slice AE G.length cE] := by
      apply Array.toList_inj.1
      simpa [Value.cells] using e
    rw [this]
set_option maxRecDepth 100000 in
theorem open_list {r : Reach} {b0 : Nat} {v : Value} {d : DataW H} {p : List MemPlace} (hv : Value.okWide Try.prog W r b0 26 v) (h : DataW.Trod enc Try.prog W 0 (fun _ => true) true 26 v d p) :
    ∃ (AD : Option Addr) (cD : Nat) (D : List Int), v = .slice AD D.length cD ∧ IntsR W W.heap.size AD D ∧ D.length ≤ maxLen := by
  obtain ⟨a0, len, cap, rfl⟩ := okWide_slice Try.underlying26 hv
  obtain ⟨fuel, hf⟩ := h
  obtain ⟨A, c, xs, e, h1, h2⟩ := open_ints_cells hf
  refine ⟨A, c, xs, ?_, h1, h2⟩
  simpa [Value.cells] using e
set_option maxRecDepth 100000 in
theorem open_mind_cells {cs : List Value} {x : DataW H × List MemPlace} (h : DataW.trod enc Try.prog W 0 (fun _ => true) true fuel 40 cs = some x) : ∃ a b : Int, cs = [I a, I b] := by
  obtain ⟨xs, n, -, rfl, hcl, hxl, hf⟩ := DataW.trod_struct Try.underlying40 h
  obtain ⟨v0, v1, rfl⟩ := two_of (hcl.trans cellsMind)
  match xs, hxl with
  | [x0, x1], _ =>
    have h0 : DataW.trod enc Try.prog W 0 (fun _ => true) true n 3 ([v0, v1].take (Try.prog.cellsOf 3)) = some x0 := hf 0 _ rfl
    have h1 : DataW.trod enc Try.prog W 0 (fun _ => true) true n 3 ([v1].take (Try.prog.cellsOf 3)) = some x1 := hf 1 _ rfl
    rw [cellsInt] at h0 h1
    obtain ⟨n0, q0, -, -⟩ := DataW.trod_int Try.underlying3 h0
    obtain ⟨n1, q1, -, -⟩ := DataW.trod_int Try.underlying3 h1
    simp only [List.take_succ_cons, List.take_zero, List.cons.injEq, and_true] at q0 q1
    subst q0 q1
    exact ⟨n0, n1, rfl⟩
set_option maxRecDepth 100000 in
theorem open_run {r : Reach} {b0 : Nat} {v : Value} {d : DataW H} {p : List MemPlace} (hv : Value.okWide Try.prog W r b0 42 v) (h : DataW.Trod enc Try.prog W 0 (fun _ => true) true 42 v d p) :
    ∃ mo tu most : Int, v = .agg #[I mo, I tu, I most] := by
  obtain ⟨cs, rfl, -⟩ := okWide_struct Try.underlying42 hv
  obtain ⟨fuel, hf⟩ := h
  obtain ⟨xs, n, -, -, hcl, hxl, hf⟩ := DataW.trod_struct Try.underlying42 hf
  obtain ⟨v0, v1, v2, e⟩ := three_of (hcl.trans cellsRun)
  rw [e] at hf
  match xs, hxl with
  | [x0, x1], _ =>
    have h0 : DataW.trod enc Try.prog W 0 (fun _ => true) true n 40 ([v0, v1, v2].take (Try.prog.cellsOf 40)) = some x0 := hf 0 _ rfl
    have h1 : DataW.trod enc Try.prog W 0 (fun _ => true) true n 3 (([v0, v1, v2].drop (Try.prog.cellsOf 40)).take (Try.prog.cellsOf 3)) = some x1 := hf 1 _ rfl
    rw [cellsMind] at h0 h1
    rw [cellsInt] at h1
    obtain ⟨n0, n1, q0⟩ := open_mind_cells h0
    obtain ⟨n2, q2, -, -⟩ := DataW.trod_int Try.underlying3 h1
    simp only [List.take_succ_cons, List.take_zero, List.drop_succ_cons, List.drop_zero, List.cons.injEq, and_true] at q0 q2
    obtain ⟨rfl, rfl⟩ := q0
    subst q2
    refine ⟨n0, n1, n2, ?_⟩
    have : cs = #[I n0, I n1, I n2] := by
      apply Array.toList_inj.1
      simpa [Value.cells] using e
    rw [this]
end
end Go.Proofs.Ytehoaenkkmmobaa
