/-
  PURE FACTS for the law PuzzlesLightest: which sides are weighings; the first of the lightest comes before all that are as light.
-/
import Derived.Test.YtglkjiimmlobbaaPzTips
namespace Go.Proofs.Ytglkjiimmlobbaa
def LtN (a b : List Int) (n : Nat) : Prop := ∃ i, i < n ∧ (∀ j, j < i → nth a j = nth b j) ∧ nth a i < nth b i
theorem sides_lt {n a b : Nat} (h : a < b) (hb : b < 3 ^ n) : LtN (sidesOf n a) (sidesOf n b) n := by
  obtain ⟨i, hi, hj, hx⟩ := dig_lt (s := 3) n a b h hb
  refine ⟨i, hi, fun j hji => ?_, ?_⟩
  · rw [sidesOf_at (by omega), sidesOf_at (by omega)]
    have := hj j hji
    simp only [nth]
    omega
  · rw [sidesOf_at hi, sidesOf_at hi]
    simp only [nth]
    omega
theorem allS_sorted (n : Nat) : (allS n).Pairwise (fun a b => LtN a b n) := by
  rw [List.pairwise_iff_getElem]
  intro i j hi hj hij
  rw [allS_at, allS_at]
  exact sides_lt hij (by rw [allS_length] at hj; exact hj)
theorem wgs_sorted (ws : List Int) (load : Int) : (wgs ws load).Pairwise (fun a b => LtN a b ws.length) := by
  rw [wgs_eq]
  exact (allS_sorted _).sublist List.filter_sublist
theorem wgs_iff {ws ss : List Int} {load : Int} : ss ∈ wgs ws load ↔ standB ws ss = true ∧ tipL ws ss load = 0 := by
  rw [wgs_mem]
  constructor
  · rintro ⟨⟨n, hn, rfl⟩, h⟩
    refine ⟨?_, h⟩
    simp only [standB, Bool.and_eq_true, decide_eq_true_eq, inB, List.all_eq_true, wi]
    refine ⟨sidesOf_length _ _, fun s hs => ?_⟩
    obtain ⟨i, hi, rfl⟩ := List.getElem_of_mem hs
    have := sidesOf_bounds (w := ws.length) (n := n) (i := i) (by rw [sidesOf_length] at hi; exact hi)
    rw [nth_lt hi] at this
    exact this
  · rintro ⟨h, h0⟩
    obtain ⟨h1, h2⟩ := stand_facts h
    refine ⟨sidesOf_surj h1 (fun d hd => ?_), h0⟩
    obtain ⟨i, hi, rfl⟩ := List.getElem_of_mem hd
    have := h2 i (by omega)
    rwa [nth_lt hi] at this
/-- no weighing is lighter than the best; one that is as light and another comes behind it -/
theorem best_first {ws ss : List Int} {load : Int} (h : ss ∈ wgs ws load) (hu : usedL ss ≤ usedL (cheap usedL (wgs ws load))) (hne : ss ≠ cheap usedL (wgs ws load)) : LtN (cheap usedL (wgs ws load)) ss ws.length := by
  obtain ⟨q, hq, rfl⟩ := List.getElem_of_mem h
  obtain ⟨W, hW⟩ : ∃ W, W = wgs ws load := ⟨_, rfl⟩
  have hs := wgs_sorted ws load
  rw [List.pairwise_iff_getElem] at hs
  obtain ⟨v, hv⟩ : ∃ v, v = fun i => usedL ((wgs ws load).getD i []) := ⟨_, rfl⟩
  obtain ⟨p, hp⟩ : ∃ p, p = bst v ((wgs ws load).length - 1) := ⟨_, rfl⟩
  have hpl : p < (wgs ws load).length := by have := bst_le v ((wgs ws load).length - 1); omega
  have hc : cheap usedL (wgs ws load) = (wgs ws load)[p] := by
    rw [cheap, cheapAt, ← hv, ← hp, List.getD_eq_getElem?_getD, List.getElem?_eq_getElem hpl]; rfl
  rw [hc] at hu hne ⊢
  have e1 : v p = usedL (wgs ws load)[p] := by rw [hv]; simp [List.getD_eq_getElem?_getD, hpl]
  have e2 : v q = usedL (wgs ws load)[q] := by rw [hv]; simp [List.getD_eq_getElem?_getD, hq]
  have hqp : ¬ q < p := fun hlt => by
    have := bst_first v ((wgs ws load).length - 1) q (by rw [← hp]; exact hlt)
    rw [← hp] at this
    omega
  have hqp2 : q ≠ p := fun e => hne (by subst e; rfl)
  exact hs p q hpl hq (by omega)
theorem used_zero (n : Nat) : usedL (List.replicate n 0) = 0 := by
  rw [usedL, List.filter_eq_nil_iff.2]
  · rfl
  · intro a ha
    rw [List.eq_of_mem_replicate ha]
    simp
theorem tip_zero (ws : List Int) (n k : Nat) : tipT ws (List.replicate n 0) k = 0 := by
  induction k with
  | zero => rfl
  | succ k ih =>
    rw [tipT, ih]
    have : nth (List.replicate n (0 : Int)) k = 0 := by
      simp only [nth]
      rw [List.getElem?_replicate]
      split <;> rfl
    rw [this]
    omega
theorem best_none {ws : List Int} : usedL (cheap usedL (wgs ws 0)) = 0 := by
  have h : List.replicate ws.length 0 ∈ wgs ws 0 := by
    rw [wgs_iff]
    constructor
    · simp only [standB, Bool.and_eq_true, decide_eq_true_eq, inB, List.all_eq_true, wi]
      exact ⟨by simp, fun s hs => by rw [List.eq_of_mem_replicate hs]; decide⟩
    · rw [tipL, tip_zero]
      rfl
  have := cheap_least (cost := usedL) h
  rw [used_zero] at this
  omega
end Go.Proofs.Ytglkjiimmlobbaa
