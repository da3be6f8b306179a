/-
  Mathematics of PuzzlesHung: hangings in order; with a sentence and with its opposite they are all; each has every portrait.
-/
import Derived.Test.YtglkjiimmlobbaaPzHngP
namespace Go.Proofs.Ytglkjiimmlobbaa
open Go.RowKit Go.Shelf
/-- what 'earlier' answers -/
def earB : List Int → List Int → Bool
  | x :: a, y :: b => if x = y then earB a b else decide (x < y)
  | _, _ => false
theorem earB_app (h a b : List Int) : earB (h ++ a) (h ++ b) = earB a b := by
  induction h with
  | nil => rfl
  | cons x r ih => simp [earB, ih]
theorem earB_hit {a b : List Int} {k : Nat} (h1 : k < a.length) (h2 : k < b.length) (he : ∀ j, j < k → nth a j = nth b j) (hne : nth a k ≠ nth b k) : earB a b = decide (nth a k < nth b k) := by
  induction a generalizing b k with
  | nil => simp at h1
  | cons x r ih =>
    cases b with
    | nil => simp at h2
    | cons y s =>
      cases k with
      | zero =>
        have h : x ≠ y := hne
        simp only [earB]
        rw [if_neg h]
        rfl
      | succ k =>
        have h : x = y := he 0 (by omega)
        simp only [earB]
        rw [if_pos h]
        exact ih (b := s) (k := k) (by simpa using h1) (by simpa using h2) (fun j hj => he (j + 1) (by omega)) hne
theorem earB_miss {a b : List Int} (he : ∀ j, j < a.length → j < b.length → nth a j = nth b j) : earB a b = false := by
  induction a generalizing b with
  | nil => cases b <;> rfl
  | cons x r ih =>
    cases b with
    | nil => rfl
    | cons y s =>
      have h : x = y := he 0 (by simp) (by simp)
      simp only [earB]
      rw [if_pos h]
      exact ih (fun j h1 h2 => he (j + 1) (by simpa using h1) (by simpa using h2))
theorem exts_pre : ∀ f n h, ∀ x ∈ exts f n h, ∃ t, x = h ++ t := by
  intro f
  induction f with
  | zero => intro n h x hx; simp [exts] at hx; exact ⟨[], by rw [hx]; simp⟩
  | succ f ih =>
    intro n h x hx
    simp only [exts, List.mem_flatten, List.mem_map] at hx
    obtain ⟨l, ⟨p, -, rfl⟩, hx⟩ := hx
    split at hx
    · cases hx
    · obtain ⟨t, rfl⟩ := ih _ _ x hx
      exact ⟨(p : Int) :: t, by simp⟩
theorem exts_sorted : ∀ f n h, (exts f n h).Pairwise (fun x y => earB x y = true) := by
  intro f
  induction f with
  | zero => intro n h; simp [exts]
  | succ f ih =>
    intro n h
    rw [exts, List.pairwise_flatten]
    constructor
    · intro l hl
      obtain ⟨p, -, rfl⟩ := List.mem_map.1 hl
      split
      · exact List.Pairwise.nil
      · exact ih _ _
    · rw [List.pairwise_map]
      refine List.Pairwise.imp ?_ (List.pairwise_lt_range (n := n))
      intro p q hpq x hx y hy
      split at hx
      · cases hx
      split at hy
      · cases hy
      obtain ⟨t, rfl⟩ := exts_pre _ _ _ x hx
      obtain ⟨s, rfl⟩ := exts_pre _ _ _ y hy
      rw [List.append_assoc, List.append_assoc, earB_app]
      simp only [List.cons_append, List.nil_append, earB]
      rw [if_neg (by omega)]
      simp; omega
/-- those that are not there yet -/
def miss (n : Nat) (h : List Int) : List Nat := (List.range n).filter fun p => !h.contains (p : Int)
theorem filter_less {l : List Nat} (hn : l.Nodup) {p : Nat} (hp : p ∈ l) : (l.filter fun q => q != p).length + 1 = l.length := by
  induction l with
  | nil => cases hp
  | cons a r ih =>
    obtain ⟨h1, h2⟩ := List.nodup_cons.1 hn
    by_cases e : a = p
    · subst e
      rw [List.filter_cons_of_neg (by simp)]
      rw [List.filter_eq_self.2 (fun x hx => by simp; rintro rfl; exact h1 hx)]
      simp
    · rw [List.filter_cons_of_pos (by simpa using e)]
      have := ih h2 (by rcases List.mem_cons.1 hp with h | h; exact absurd h.symm e; exact h)
      simp; omega
theorem miss_step {n : Nat} {h : List Int} {p : Nat} (hp : p < n) (hc : h.contains (p : Int) = false) : (miss n (h ++ [(p : Int)])).length + 1 = (miss n h).length := by
  have e : miss n (h ++ [(p : Int)]) = (miss n h).filter fun q => q != p := by
    unfold miss
    rw [List.filter_filter]
    apply List.filter_congr
    intro q _
    by_cases e : q = p
    · subst e; simp
    · have : ¬ (q : Int) = (p : Int) := by omega
      simp [e, this]
  rw [e]
  refine filter_less (List.Pairwise.filter _ List.nodup_range) ?_
  exact List.mem_filter.2 ⟨List.mem_range.2 hp, by simp at hc ⊢; exact hc⟩
theorem exts_miss : ∀ f n h, (miss n h).length = f → ∀ x ∈ exts f n h, miss n x = [] := by
  intro f
  induction f with
  | zero => intro n h hm x hx; simp [exts] at hx; rw [hx]; exact List.eq_nil_of_length_eq_zero hm
  | succ f ih =>
    intro n h hm x hx
    simp only [exts, List.mem_flatten, List.mem_map] at hx
    obtain ⟨l, ⟨p, hp, rfl⟩, hx⟩ := hx
    split at hx
    · cases hx
    · rename_i hc
      refine ih _ _ ?_ x hx
      have := miss_step (n := n) (h := h) (List.mem_range.1 hp) (by simpa using hc)
      omega
theorem hng_all {n : Nat} {ps : List Por} : ∀ x ∈ hngL n ps, ∀ p : Nat, p < n → x.contains (p : Int) = true := by
  intro x hx p hp
  have h := exts_miss n n [] (by have : miss n [] = List.range n := List.filter_eq_self.2 (fun _ _ => rfl); rw [this, List.length_range]) x (List.mem_filter.1 hx).1
  have h2 := List.filter_eq_nil_iff.1 h p (List.mem_range.2 hp)
  simpa using h2
theorem hng_right {n : Nat} {ps : List Por} : ∀ x ∈ hngL n ps, allT' ps x = true := fun _ hx => (List.mem_filter.1 hx).2
theorem hng_sorted (n : Nat) (ps : List Por) (m : Nat) {i : Nat} (h : i + 1 < ((hngL n ps).take m).length) : earB ((hngL n ps).take m)[i] ((hngL n ps).take m)[i + 1] = true := by
  have h1 : ((hngL n ps).take m).Pairwise (fun x y => earB x y = true) := ((exts_sorted n n []).filter _).sublist (List.take_sublist _ _)
  exact List.pairwise_iff_getElem.1 h1 i (i + 1) (by omega) h (by omega)
theorem filter_both (q : List Int → Bool) (t : List Int → Bool) (l : List (List Int)) : (l.filter fun x => q x && t x).length + (l.filter fun x => q x && !t x).length = (l.filter q).length := by
  induction l with
  | nil => rfl
  | cons a r ih =>
    simp only [List.filter_cons]
    cases q a <;> cases t a <;> simp <;> omega
theorem all_snoc (ps : List Por) (x : Por) (h : List Int) : allT' (ps ++ [x]) h = (allT' ps h && truB x h) := by simp [allT']
theorem tru_neg (x : Por) (h : List Int) : truB { x with neg := !x.neg } h = !truB x h := by
  show (sayB x h != !x.neg) = !(sayB x h != x.neg)
  cases sayB x h <;> cases x.neg <;> rfl
theorem hng_both (n : Nat) (ps : List Por) (x : Por) : (hngL n (ps ++ [x])).length + (hngL n (ps ++ [{ x with neg := !x.neg }])).length = (hngL n ps).length := by
  have e1 : hngL n (ps ++ [x]) = (exts n n []).filter (fun h => allT' ps h && truB x h) := by
    rw [hngL, fl]; apply List.filter_congr; intro h _; exact all_snoc ps x h
  have e2 : hngL n (ps ++ [{ x with neg := !x.neg }]) = (exts n n []).filter (fun h => allT' ps h && !truB x h) := by
    rw [hngL, fl]; apply List.filter_congr; intro h _; rw [all_snoc, tru_neg]
  rw [e1, e2]
  exact filter_both (allT' ps) (truB x) (exts n n [])
theorem por_neg (x : Por) (M n : Int) : porM M n { x with neg := !x.neg } = porM M n x := rfl
theorem porE_snoc {n : Int} {ps : List Por} {x : Por} (h1 : porE n ps = 0) (h2 : porM (n - 1) n x = true) (hl : ps.length < 20) : porE n (ps ++ [x]) = 0 := by
  obtain ⟨hn, -, hv⟩ := porE_ok h1
  rw [porE, show wi n 1 6 = true by simp [wi]; omega, if_pos rfl, if_pos (by simp; omega), if_pos (by rw [List.all_append, hv]; simp [h2])]
end Go.Proofs.Ytglkjiimmlobbaa
