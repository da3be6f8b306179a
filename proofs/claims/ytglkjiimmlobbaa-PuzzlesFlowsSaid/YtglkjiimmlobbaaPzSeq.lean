/-
  PURE FACTS for layer 3, sequences: differences, what follows, polynomials. Nothing of the program.
-/
import Derived.RowKit3
namespace Go.Proofs.Ytglkjiimmlobbaa
/-- the differences of a list -/
def diffs : List Int → List Int
  | a :: b :: r => (b - a) :: diffs (b :: r)
  | _ => []
theorem diffs_length : ∀ l : List Int, (diffs l).length = l.length - 1
  | [] => rfl
  | [_] => rfl
  | a :: b :: r => by
    rw [diffs, List.length_cons, diffs_length (b :: r)]
    simp
theorem diffs_at : ∀ (l : List Int) (i : Nat) (h : i + 1 < l.length), (diffs l)[i]'(by rw [diffs_length]; omega) = l[i + 1] - l[i]
  | [], _, h => by simp at h
  | [_], _, h => by simp at h
  | a :: b :: r, 0, _ => rfl
  | a :: b :: r, i + 1, h => by
    have := diffs_at (b :: r) i (by simpa using h)
    simpa [diffs] using this
/-- are all as the first one -/
def allEq (l : List Int) : Bool := l.all (fun n => n == l.headD 0)
/-- what follows a list, and at which degree: the fuel is its length -/
def nxt : Nat → List Int → Option (Int × Nat)
  | 0, _ => none
  | f + 1, l => if l.length < 2 then none else if allEq l then some (l.getLastD 0, 0) else (nxt f (diffs l)).map (fun r => (l.getLastD 0 + r.1, r.2 + 1))
/-- the rows of a polynomial by its differences at 0 -/
def prow (d : List Int) : Nat → Nat → Int
  | 0, k => d.getD k 0
  | i + 1, k => prow d i k + prow d i (k + 1)
theorem prow_succ (d : List Int) (i k : Nat) : prow d (i + 1) k = prow d i k + prow d i (k + 1) := rfl
theorem prow_zero {d : List Int} {q : Nat} (h : ∀ k, q ≤ k → prow d 0 k = 0) : ∀ i k, q ≤ k → prow d i k = 0
  | 0, k, hk => h k hk
  | i + 1, k, hk => by rw [prow, prow_zero h i k hk, prow_zero h i (k + 1) (by omega)]; rfl
theorem prow_end (d : List Int) (i : Nat) {k : Nat} (h : d.length ≤ k) : prow d i k = 0 :=
  prow_zero (q := d.length) (fun k hk => by simp [prow, List.getElem?_eq_none hk]) i k h
def ptake (d : List Int) (k t : Nat) : List Int := (List.range t).map (fun i => prow d i k)
theorem ptake_length (d : List Int) (k t : Nat) : (ptake d k t).length = t := by simp [ptake]
theorem ptake_at (d : List Int) (k t i : Nat) (h : i < (ptake d k t).length) : (ptake d k t)[i] = prow d i k := by simp [ptake]
theorem diffs_ptake (d : List Int) (k t : Nat) : diffs (ptake d k (t + 1)) = ptake d (k + 1) t := by
  refine List.ext_getElem (by rw [diffs_length, ptake_length, ptake_length]; rfl) fun i h1 h2 => ?_
  rw [ptake_length] at h2
  rw [diffs_at _ _ (by rw [ptake_length]; omega), ptake_at, ptake_at, ptake_at, prow]
  omega
theorem ptake_last (d : List Int) (k t : Nat) : (ptake d k (t + 1)).getLastD 0 = prow d t k := by
  rw [ptake, List.range_succ, List.map_append]
  simp
/-- where a row stands still long enough, it stands still -/
theorem prow_still {d : List Int} {k t : Nat} (ht : d.length ≤ t + k) (h : ∀ i, i < t → prow d i (k + 1) = 0) : ∀ i, prow d i (k + 1) = 0 := by
  have h0 : ∀ j i, i + j < t → prow d i (k + 1 + j) = 0 := by
    intro j
    induction j with
    | zero => intro i hi; exact h i (by omega)
    | succ j ih =>
      intro i hi
      have h1 := ih i (by omega)
      have h2 := ih (i + 1) (by omega)
      rw [prow_succ, h1] at h2
      rw [← Nat.add_assoc]
      omega
  intro i
  refine prow_zero (q := k + 1) (fun m hm => ?_) i (k + 1) (Nat.le_refl _)
  rcases Nat.lt_or_ge (m - (k + 1)) t with h1 | h1
  · have := h0 (m - (k + 1)) 0 (by omega)
    rwa [show k + 1 + (m - (k + 1)) = m by omega] at this
  · exact prow_end d 0 (by omega)
theorem allEq_ptake {d : List Int} {k t : Nat} (h : allEq (ptake d k (t + 1)) = true) : ∀ i, i < t + 1 → prow d i k = prow d 0 k := by
  intro i hi
  have h0 : (ptake d k (t + 1)).headD 0 = prow d 0 k := by
    rw [ptake, List.range_succ_eq_map]
    rfl
  rw [allEq, h0, List.all_eq_true] at h
  have := h (prow d i k) (List.mem_map.2 ⟨i, List.mem_range.2 hi, rfl⟩)
  simpa using this
theorem allEq_const {d : List Int} {k t : Nat} (h : ∀ i, prow d i k = prow d 0 k) : allEq (ptake d k (t + 1)) = true := by
  have h0 : (ptake d k (t + 1)).headD 0 = prow d 0 k := by
    rw [ptake, List.range_succ_eq_map]
    rfl
  rw [allEq, h0, List.all_eq_true]
  intro n hn
  obtain ⟨i, _, rfl⟩ := List.mem_map.1 hn
  simpa using h i
/-- a polynomial goes on as its differences say -/
theorem nxt_prow (d : List Int) : ∀ (m k f t : Nat), d.length = k + 1 + m → m + 2 ≤ t → t ≤ f → ∃ D, D ≤ m ∧ nxt f (ptake d k t) = some (prow d t k, D) := by
  intro m
  induction m with
  | zero =>
    intro k f t hd ht hf
    obtain ⟨f, rfl⟩ : ∃ g, f = g + 1 := ⟨f - 1, by omega⟩
    obtain ⟨t, rfl⟩ : ∃ s, t = s + 1 := ⟨t - 1, by omega⟩
    have hz : ∀ i, prow d i (k + 1) = 0 := fun i => prow_end d i (by omega)
    have hc : ∀ i, prow d i k = prow d 0 k := by
      intro i
      induction i with
      | zero => rfl
      | succ i ih => rw [prow_succ, ih, hz i]; omega
    refine ⟨0, Nat.le_refl _, ?_⟩
    rw [nxt, ptake_length, if_neg (by omega), if_pos (allEq_const hc), ptake_last, hc t, hc (t + 1)]
  | succ m ih =>
    intro k f t hd ht hf
    obtain ⟨f, rfl⟩ : ∃ g, f = g + 1 := ⟨f - 1, by omega⟩
    obtain ⟨t, rfl⟩ : ∃ s, t = s + 1 := ⟨t - 1, by omega⟩
    rw [nxt, ptake_length, if_neg (by omega), ptake_last]
    by_cases hq : allEq (ptake d k (t + 1)) = true
    · have h1 := allEq_ptake hq
      have hz : ∀ i, i < t → prow d i (k + 1) = 0 := fun i hi => by
        have a := h1 i (by omega)
        have b := h1 (i + 1) (by omega)
        rw [prow_succ] at b
        omega
      have hs := prow_still (t := t) (by omega) hz
      refine ⟨0, Nat.zero_le _, ?_⟩
      rw [if_pos hq, prow_succ, hs t, Int.add_zero]
    · rw [if_neg hq, diffs_ptake]
      obtain ⟨D, h1, h2⟩ := ih (k + 1) f t (by omega) (by omega) (by omega)
      refine ⟨D + 1, by omega, ?_⟩
      rw [h2]
      rfl
end Go.Proofs.Ytglkjiimmlobbaa
