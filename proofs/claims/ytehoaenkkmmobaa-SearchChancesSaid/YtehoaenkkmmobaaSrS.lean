/-
  LAYER 6, PURE: what a search keeps.
-/
import Derived.Test.YtehoaenkkmmobaaSrI
import Derived.Test.YtehoaenkkmmobaaSrM
namespace Go.Proofs.Ytehoaenkkmmobaa
open Go.RowKit Go.Shelf
section
variable {E : Nat → List Nat} {n tu most : Nat}
/-- all edges of p are remembered -/
theorem untr_none_iff {mem : List Lk} {p : Nat} : untr E tu mem p = none ↔ ∀ j, j < (E p).length → (p, j) ∈ mem := by
  rw [untr, List.find?_eq_none]
  constructor
  · intro h j hj
    -- j = (tu + i) % len for an i below len
    obtain ⟨i, hi, e⟩ : ∃ i, i < (E p).length ∧ (tu + i) % (E p).length = j := by
      have hl : 0 < (E p).length := by omega
      refine ⟨(j + (E p).length - tu % (E p).length) % (E p).length, Nat.mod_lt _ hl, ?_⟩
      have h1 := Nat.mod_lt tu hl
      rw [Nat.add_mod, Nat.mod_mod]
      have h2 : (j + (E p).length - tu % (E p).length) % (E p).length = if tu % (E p).length ≤ j then j - tu % (E p).length else j + (E p).length - tu % (E p).length := by
        split
        · rw [show j + (E p).length - tu % (E p).length = (j - tu % (E p).length) + (E p).length by omega, Nat.add_mod_right, Nat.mod_eq_of_lt (by omega)]
        · rw [Nat.mod_eq_of_lt (by omega)]
      rw [h2]
      split
      · rw [show tu % (E p).length + (j - tu % (E p).length) = j by omega, Nat.mod_eq_of_lt hj]
      · rw [show tu % (E p).length + (j + (E p).length - tu % (E p).length) = j + (E p).length by omega, Nat.add_mod_right, Nat.mod_eq_of_lt hj]
    have := h j (by rw [ord, List.mem_map]; exact ⟨i, List.mem_range.2 hi, e⟩)
    simpa using this
  · intro h j hj
    rw [ord, List.mem_map] at hj
    obtain ⟨i, hi, rfl⟩ := hj
    have hi' := List.mem_range.1 hi
    simpa using h _ (Nat.mod_lt _ (by omega))
/-- a way along positions all of whose edges are remembered, up to its end -/
def PathB (E : Nat → List Nat) (tu : Nat) (mem : List Lk) : Nat → List Nat → Prop
  | _, [] => True
  | p, e :: t => untr E tu mem p = none ∧ e < (E p).length ∧ PathB E tu mem (tgt E p e) t
theorem PathB.congr {mem mem' : List Lk} (h : ∀ q, q ∈ mem ↔ q ∈ mem') : ∀ (l : List Nat) (p : Nat), PathB E tu mem p l → PathB E tu mem' p l := by
  intro l
  induction l with
  | nil => exact fun _ _ => trivial
  | cons e t ih =>
    intro p ⟨h1, h2, h3⟩
    refine ⟨?_, h2, ih _ h3⟩
    rw [untr_none_iff] at h1 ⊢
    exact fun j hj => (h _).1 (h1 j hj)
theorem filter_len {mem : List Lk} {l : Lk} (hn : mem.Nodup) (h : l ∈ mem) : (mem.filter fun x => !(x == l)).length + 1 = mem.length := by
  induction mem with
  | nil => cases h
  | cons a t ih =>
    rw [List.nodup_cons] at hn
    by_cases e : a = l
    · subst e
      have hf : (t.filter fun x => !(x == a)) = t := fil_eq (by
        cases q : t.contains a with
        | false => rfl
        | true => exact absurd (List.contains_iff_mem.1 q) hn.1)
      rw [List.filter_cons, if_neg (by simp), hf, List.length_cons]
    · have h' : l ∈ t := by
        rcases List.mem_cons.1 h with h | h
        · exact absurd h.symm e
        · exact h
      rw [List.filter_cons, if_pos (by simpa using e), List.length_cons, List.length_cons, ih hn.2 h']
/-- a link that is remembered is only moved -/
theorem addM_old {mem : List Lk} {l : Lk} (hn : mem.Nodup) (hl : mem.length ≤ most) (h : l ∈ mem) : ∀ q, q ∈ addM most mem l ↔ q ∈ mem := fun q => by
  have hlen := filter_len hn h
  have e : addM most mem l = (mem.filter fun x => !(x == l)) ++ [l] := by
    unfold addM
    simp only []
    rw [if_neg (by rw [List.length_append, List.length_singleton]; omega)]
  rw [e, List.mem_append, List.mem_filter, List.mem_singleton]
  by_cases q1 : q = l
  · subst q1; simp [h]
  · simp [q1]
theorem addM_nodup {mem : List Lk} {l : Lk} (hn : mem.Nodup) : (addM most mem l).Nodup := by
  have h := nodup_put l hn
  unfold addM
  simp only []
  split
  · exact h.sublist (List.tail_sublist _)
  · exact h
theorem addM_len {mem : List Lk} {l : Lk} (h : mem.length ≤ most) : (addM most mem l).length ≤ most := by
  have hf := List.length_filter_le (fun x => !(x == l)) mem
  unfold addM
  simp only []
  split
  · rw [List.length_tail, List.length_append, List.length_singleton]; omega
  · omega
theorem addM_mem {mem : List Lk} {l q : Lk} (h : q ∈ addM most mem l) : q ∈ mem ∨ q = l := by
  unfold addM at h
  simp only [] at h
  have h' : q ∈ (mem.filter fun x => !(x == l)) ++ [l] := by
    split at h
    · exact List.mem_of_mem_tail h
    · exact h
  rw [List.mem_append, List.mem_filter, List.mem_singleton] at h'
  exact h'.imp And.left id
end
end Go.Proofs.Ytehoaenkkmmobaa
