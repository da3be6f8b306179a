/-
  LAYER 6, CONTRACT: Example (the law's map); lists of edges of the call's own.
-/
import Derived.Test.YtehoaenkkmmobaaSrAb
namespace Go.Proofs.Ytehoaenkkmmobaa
open Go.RowKit Go.Shelf
def edCells (es : List Ed) : List Value := es.flatMap (fun e => (edC e).toList)
theorem edC_len (e : Ed) : (edC e).toList.length = 4 := rfl
theorem edCells_length (es : List Ed) : (edCells es).length = es.length * 4 := by
  induction es with
  | nil => rfl
  | cons t ts ih => rw [edCells, List.flatMap_cons, List.length_append, edC_len, ← edCells, ih, List.length_cons]; omega
theorem edCells_at (es : List Ed) : ∀ (j : Nat) (hj : j < es.length) (i : Nat), i < 4 → (edCells es)[j * 4 + i]? = (edC es[j])[i]? := by
  induction es with
  | nil => intro j hj; simp at hj
  | cons t ts ih =>
    intro j hj i hi
    rw [edCells, List.flatMap_cons, ← edCells]
    cases j with
    | zero =>
      rw [Nat.zero_mul, Nat.zero_add, List.getElem?_append_left (by rw [edC_len]; exact hi)]
      simp
    | succ j =>
      rw [List.getElem?_append_right (by rw [edC_len]; omega), edC_len, show (j + 1) * 4 + i - 4 = j * 4 + i by omega, ih j (by simpa using hj) i hi]
      rfl
theorem edCells_one (es : List Ed) : ∀ u ∈ edCells es, u.oneCell' = true := by
  intro u hu
  obtain ⟨t, -, h⟩ := List.mem_flatMap.1 hu
  simp only [edC, List.mem_cons, List.not_mem_nil, or_false] at h
  rcases h with rfl | rfl | rfl | rfl <;> rfl
theorem edCells_snoc (es : List Ed) (e : Ed) : edCells (es ++ [e]) = edCells es ++ (edC e).toList := by
  simp [edCells]
theorem plain_addE (g o j : Nat) : (⟨g, o, none⟩ : Addr).add j = ⟨g, o + j, none⟩ := by unfold Addr.add; split <;> simp_all
/-- edges of the call's own -/
abbrev OwnE (w : World) (B : Nat) (u : Value) (es : List Ed) : Prop := w.ownsRow B 58 4 u es.length (edCells es)
theorem own_ed {w : World} {B : Nat} {v : Value} {es : List Ed} (h : OwnE w B v es) : ∃ (A : Option Addr) (c : Nat), v = .slice A es.length c ∧ EdR w w.heap.size A es := by
  rcases h.2 with ⟨rfl, h0⟩ | ⟨g, cap, cur, rfl, _, hh, h1, h2, h3, h4⟩
  · exact ⟨none, 0, by simp [h0], fun hh => absurd hh (by simp [h0])⟩
  · refine ⟨some ⟨g, 0, none⟩, cap, rfl, fun _ => ⟨g, 0, rfl, (Array.getElem?_eq_some_iff.1 hh).1, fun j hj i u hu => ?_⟩⟩
    have hi : i < 4 := by
      have := (Array.getElem?_eq_some_iff.1 hu).1
      simpa [edC] using this
    have h5 : (edCells es)[j * 4 + i]? = some u := by
      rw [edCells_at es j hj i hi]
      exact hu
    rw [← h4, List.getElem?_take_of_lt (by have := Nat.mul_le_mul_right 4 (Nat.succ_le_of_lt hj); omega)] at h5
    rw [show 0 + j * 4 + i = j * 4 + i by omega]
    have hh' : w.heap[g]? = some (.cells cur.toList.toArray 58 (0, 0)) := by simpa using hh
    rw [cell_of_row w g _ _ _ _ hh']
    simpa using h5
theorem info_ed : (Try.prog.info? 58).map (fun i => (i.zero, i.size, i.bytes)) = some (some (.agg #[.int .i64 0, .int .i64 0, .int .i64 0, .int .i64 0]), 4, 32) := by kernel_rfl
theorem info_es : (Try.prog.info? 54).map (fun i => (i.zero, i.size, i.bytes)) = some (some (.slice none 0 0), 1, 24) := by kernel_rfl
theorem wpList_append_ed {ops : Array Oper} {rest : List Oper} {o : Oper} {a : Act} {Q : Exit → Act → World → Prop} {w : World} (hgd : o.guard = none) (s x : Operand)
    (ho : o.op = .call { callee := .builtin .append, args := #[s, x], argTypes := #[54, 54] })
    (v : Value) (hs : a.eval s = v) (es : List Ed) (B : Nat) (hB : B ≤ w.heap.size) (hown : OwnE w B v es) (hl : es.length < 1000)
    (b c' : Nat) (t : Ed) (hx : a.eval x = .slice (some ⟨b, 0, none⟩) 1 c') (hb : w.heap[b]? = some (.cells (edC t) 58 (0, 0)))
    (h : ∀ v' w', OwnE w' B v' (es ++ [t]) → w.grownBy w' v.ownBlock → wpList Try.prog ops Q rest (a.put o.dst v') w') : wpList Try.prog ops Q (o :: rest) a w := by
  obtain ⟨i0, hi, hz0, hz1, hz2⟩ := info_parts info_ed
  refine wpList_append_own _ hgd s x 54 ho B 58 i0 _ 4 32 Try.underlying54 hi hz0 hz1 hz2 rfl (by decide) v es.length (edCells es) hs hown ⟨b, 0, none⟩ 1 c' (edC t).toList hx (by rw [edC_len]) ?_ ?_ (by unfold maxLen; omega) (by omega) hB ?_
  · intro j u hu
    rw [plain_addE, cell_of_row w b _ _ _ _ hb, Nat.zero_add]
    simpa using hu
  · intro u hu
    exact edCells_one [t] u (by rw [edCells]; simpa using hu)
  · intro v' w' h1 h2 _
    rw [← edCells_snoc] at h1
    exact h v' w' (by simpa [OwnE] using h1) h2
/-- lists of edges of the call's own -/
def GrO (w : World) (base : Nat) (v : Value) (G : List (List Ed)) : Prop :=
  ∃ vs : List Value, w.ownsRow base 54 1 v G.length vs ∧ ∀ j (h : j < G.length), ∃ u, vs[j]? = some u ∧ OwnE w base u G[j]
theorem ne_ed : 54 ≠ 58 := by decide
theorem GrO.grown {w w' : World} {base : Nat} {v : Value} {G : List (List Ed)} (h : GrO w base v G) (hg : w.grownBy w' none) : GrO w' base v G := by
  obtain ⟨vs, h1, h2⟩ := h
  refine ⟨vs, own_grown h1 hg, fun j hj => ?_⟩
  obtain ⟨u, e, h3⟩ := h2 j hj
  exact ⟨u, e, own_grown h3 hg⟩
theorem GrO.gr {w : World} {base : Nat} {v : Value} {G : List (List Ed)} (h : GrO w base v G) : ∃ (A : Option Addr) (c : Nat), v = .slice A G.length c ∧ GrR w w.heap.size A G := by
  obtain ⟨vs, hown, hin⟩ := h
  rcases hown.2 with ⟨rfl, h0⟩ | ⟨g, cap, cur, rfl, _, hg, h1, h2, h3, h4⟩
  · exact ⟨none, 0, by rw [h0], fun h => absurd h (by omega)⟩
  · refine ⟨some ⟨g, 0, none⟩, cap, rfl, fun h0 => ⟨g, 0, rfl, (Array.getElem?_eq_some_iff.1 hg).1, fun j hj => ?_⟩⟩
    obtain ⟨u, e, h5⟩ := hin j hj
    obtain ⟨A, c, rfl, hi⟩ := own_ed h5
    refine ⟨A, c, ?_, hi⟩
    have hc : w.cell? ⟨g, 0 + j, none⟩ = cur[j]? := by
      have hg' : w.heap[g]? = some (.cells cur.toList.toArray 54 (0, 0)) := by simpa using hg
      have := cell_of_row w g (0 + j) _ _ _ hg'
      simpa using this
    rw [hc, ← Array.getElem?_toList]
    rw [← h4] at e
    rwa [List.getElem?_take_of_lt (by omega)] at e
theorem wpList_append_gr {ops : Array Oper} {rest : List Oper} {o : Oper} {a : Act} {Q : Exit → Act → World → Prop} {w : World} (hgd : o.guard = none) (s x : Operand)
    (ho : o.op = .call { callee := .builtin .append, args := #[s, x], argTypes := #[23, 23] })
    (v : Value) (hs : a.eval s = v) (G : List (List Ed)) (B : Nat) (hB : B ≤ w.heap.size) (hown : GrO w B v G) (hl : G.length < 1000)
    (b c' : Nat) (u : Value) (es : List Ed) (hu : OwnE w B u es) (hx : a.eval x = .slice (some ⟨b, 0, none⟩) 1 c') (hb : w.heap[b]? = some (.cells #[u] 54 (0, 0)))
    (h : ∀ v' w', GrO w' B v' (G ++ [es]) → w.grownBy w' v.ownBlock → wpList Try.prog ops Q rest (a.put o.dst v') w') : wpList Try.prog ops Q (o :: rest) a w := by
  obtain ⟨i0, hi, hz0, hz1, hz2⟩ := info_parts info_es
  obtain ⟨vs, hv, hin⟩ := hown
  have hu1 : u.oneCell' = true := by
    obtain ⟨A, c, rfl, -⟩ := own_ed hu
    rfl
  refine wpList_append_own _ hgd s x 23 ho B 54 i0 _ 1 24 Try.underlying23 hi hz0 hz1 hz2 rfl (by decide) v G.length vs hs hv ⟨b, 0, none⟩ 1 c' [u] hx rfl ?_ (fun u' hu' => by rw [List.mem_singleton] at hu'; rw [hu']; exact hu1) (by unfold maxLen; omega) (by omega) hB ?_
  · intro j u' hj
    rw [plain_addE, cell_of_row w b _ _ _ _ hb, Nat.zero_add]
    simpa using hj
  · intro v' w' h1 h2 _
    have hlen : vs.length = G.length := by have := hv.1; omega
    refine h v' w' ⟨vs ++ [u], by simpa using h1, fun j hj => ?_⟩ h2
    by_cases hlt : j < G.length
    · obtain ⟨y, e, h3⟩ := hin j hlt
      rw [List.getElem_append_left hlt]
      exact ⟨y, by rw [List.getElem?_append_left (by omega)]; exact e, h3.kept h2 (own_apart hv h3 ne_ed)⟩
    · have hj' : j = G.length := by simp at hj; omega
      subst hj'
      refine ⟨u, by rw [List.getElem?_append_right (by omega)]; simp [hlen], ?_⟩
      simp only [List.getElem_append_right (Nat.le_refl _), Nat.sub_self, List.getElem_cons_zero]
      exact hu.kept h2 (own_apart hv hu ne_ed)
end Go.Proofs.Ytehoaenkkmmobaa
