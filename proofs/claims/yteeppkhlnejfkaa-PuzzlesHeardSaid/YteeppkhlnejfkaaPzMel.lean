/-
  PURE FACTS for layer 3, melodies: what has been heard behind keys. Nothing of the program.
-/
import Derived.RowKit3
namespace Go.Proofs.Yteeppkhlnejfkaa
/-- the first k notes are the last k keys -/
def isEnd (m ks : List Int) (k : Nat) : Bool := (m.take k).isSuffixOf ks
theorem isEnd_iff {m ks : List Int} {k : Nat} : isEnd m ks k = true ↔ m.take k <:+ ks := List.isSuffixOf_iff_suffix
theorem isEnd_zero (m ks : List Int) : isEnd m ks 0 = true := isEnd_iff.2 (by simp)
/-- the greatest k, at most q, of which the keys end with the first k notes -/
def hrd (m ks : List Int) : Nat → Nat
  | 0 => 0
  | q + 1 => if isEnd m ks (q + 1) then q + 1 else hrd m ks q
theorem hrd_le (m ks : List Int) : ∀ q, hrd m ks q ≤ q
  | 0 => Nat.le_refl _
  | q + 1 => by
    rw [hrd]
    split
    · exact Nat.le_refl _
    · have := hrd_le m ks q; omega
theorem hrd_end (m ks : List Int) : ∀ q, isEnd m ks (hrd m ks q) = true
  | 0 => isEnd_zero m ks
  | q + 1 => by
    rw [hrd]
    by_cases h : isEnd m ks (q + 1) = true
    · rw [if_pos h]; exact h
    · rw [if_neg h]; exact hrd_end m ks q
theorem hrd_max {m ks : List Int} : ∀ {q k : Nat}, k ≤ q → isEnd m ks k = true → k ≤ hrd m ks q
  | 0, k, h, _ => h
  | q + 1, k, h, he => by
    rw [hrd]
    by_cases hq : isEnd m ks (q + 1) = true
    · rw [if_pos hq]; exact h
    · rw [if_neg hq]
      rcases Nat.lt_or_ge k (q + 1) with h1 | h1
      · exact hrd_max (by omega) he
      · obtain rfl : k = q + 1 := by omega
        exact absurd he hq
theorem hrd_eq {m ks : List Int} {q k : Nat} (hk : k ≤ q) (he : isEnd m ks k = true) (hm : ∀ j, k < j → j ≤ q → isEnd m ks j = false) : hrd m ks q = k := by
  have h1 := hrd_max hk he
  rcases Nat.lt_or_ge k (hrd m ks q) with h2 | h2
  · have := hm _ h2 (hrd_le m ks q)
    rw [hrd_end] at this
    cases this
  · omega
/-- a suffix with one more element at the end -/
theorem suffix_snoc {α : Type} {xs ys : List α} {x y : α} : xs ++ [x] <:+ ys ++ [y] ↔ xs <:+ ys ∧ x = y := by
  constructor
  · rintro ⟨t, h⟩
    rw [← List.append_assoc] at h
    obtain ⟨h1, h2⟩ := List.append_inj' h rfl
    exact ⟨⟨t, h1⟩, by simpa using h2⟩
  · rintro ⟨⟨t, h⟩, rfl⟩
    exact ⟨t, by rw [← List.append_assoc, h]⟩
theorem suffix_of_suffix {α : Type} {xs ys zs : List α} (h1 : xs <:+ zs) (h2 : ys <:+ zs) (hl : xs.length ≤ ys.length) : xs <:+ ys := List.suffix_of_suffix_length_le h1 h2 hl
theorem take_succ_int {m : List Int} {k : Nat} (h : k < m.length) : m.take (k + 1) = m.take k ++ [m[k]] := List.take_succ_eq_append_getElem h
/-- one more key: what counts is what had been heard -/
theorem isEnd_snoc {m ks : List Int} {key : Int} {k : Nat} (hk : k < m.length) : isEnd m (ks ++ [key]) (k + 1) = (isEnd m ks k && decide (m[k] = key)) := by
  rw [Bool.eq_iff_iff, isEnd_iff, take_succ_int hk, suffix_snoc, Bool.and_eq_true, isEnd_iff, decide_eq_true_eq]
theorem heard_step {m ks : List Int} (key : Int) (h : hrd m ks m.length < m.length) :
    hrd m (ks ++ [key]) m.length = hrd m (m.take (hrd m ks m.length) ++ [key]) m.length := by
  have hh := isEnd_iff.1 (hrd_end m ks m.length)
  have same : ∀ k, k ≤ m.length → isEnd m (ks ++ [key]) k = isEnd m (m.take (hrd m ks m.length) ++ [key]) k := by
    intro k hk
    cases k with
    | zero => rw [isEnd_zero, isEnd_zero]
    | succ k =>
      rw [isEnd_snoc (by omega), isEnd_snoc (by omega)]
      congr 1
      rw [Bool.eq_iff_iff, isEnd_iff, isEnd_iff]
      constructor
      · intro h1
        have h2 := hrd_max (q := m.length) (by omega) (isEnd_iff.2 h1)
        exact suffix_of_suffix h1 hh (by rw [List.length_take, List.length_take]; omega)
      · exact fun h1 => h1.trans hh
  have gen : ∀ q, q ≤ m.length → hrd m (ks ++ [key]) q = hrd m (m.take (hrd m ks m.length) ++ [key]) q := by
    intro q
    induction q with
    | zero => intro _; rfl
    | succ q ih => intro hq; rw [hrd, hrd, same (q + 1) hq, ih (by omega)]
  exact gen _ (Nat.le_refl _)
/-- behind some keys all notes have been heard -/
theorem heard_all {m ks : List Int} : hrd m ks m.length = m.length ↔ m <:+ ks := by
  constructor
  · intro h
    have := isEnd_iff.1 (hrd_end m ks m.length)
    rwa [h, List.take_length] at this
  · intro h
    refine Nat.le_antisymm (hrd_le m ks m.length) (hrd_max (Nat.le_refl _) (isEnd_iff.2 ?_))
    rwa [List.take_length]
/-- Press: the longest end of the keys that the melody begins with -/
def prs (m : List Int) : List Int → Nat
  | [] => 0
  | k :: ks => if (k :: ks) = m.take (k :: ks).length then (k :: ks).length else prs m ks
theorem prs_hrd {m : List Int} : ∀ {ks : List Int}, ks.length ≤ m.length → prs m ks = hrd m ks m.length
  | [], _ => by
    rw [prs]
    refine (hrd_eq (Nat.zero_le _) (isEnd_zero _ _) fun j h1 h2 => ?_).symm
    cases h : isEnd m [] j
    · rfl
    · have := (isEnd_iff.1 h).length_le
      rw [List.length_take, List.length_nil] at this
      omega
  | k :: ks, hl => by
    rw [prs]
    by_cases h : (k :: ks) = m.take (k :: ks).length
    · rw [if_pos h]
      refine (hrd_eq hl (isEnd_iff.2 (by rw [← h]; exact List.suffix_refl _)) fun j h1 h2 => ?_).symm
      cases h3 : isEnd m (k :: ks) j
      · rfl
      · have := (isEnd_iff.1 h3).length_le
        rw [List.length_take] at this
        omega
    · rw [if_neg h, prs_hrd (by simp at hl; omega)]
      have gen : ∀ q, q ≤ m.length → hrd m ks q = hrd m (k :: ks) q := by
        intro q
        induction q with
        | zero => intro _; rfl
        | succ q ih =>
          intro hq
          have e : isEnd m ks (q + 1) = isEnd m (k :: ks) (q + 1) := by
            rw [Bool.eq_iff_iff, isEnd_iff, isEnd_iff, List.suffix_cons_iff]
            constructor
            · exact fun h => .inr h
            · rintro (h1 | h1)
              · refine absurd ?_ h
                have hlen : (m.take (q + 1)).length = (k :: ks).length := by rw [h1]
                rw [← hlen, List.length_take, Nat.min_eq_left (by omega)]
                exact h1.symm
              · exact h1
          rw [hrd, hrd, e, ih (by omega)]
      exact gen _ (Nat.le_refl _)
/-- behind how many of the first j keys all has been heard first, -1: behind none -/
def opn (m ks : List Int) : Nat → Int
  | 0 => -1
  | j + 1 => if 0 ≤ opn m ks j then opn m ks j else if m.isSuffixOf (ks.take (j + 1)) then ((j + 1 : Nat) : Int) else -1
theorem opn_cases (m ks : List Int) : ∀ j, (opn m ks j = -1 ∧ ∀ i, 0 < i → i ≤ j → ¬ m <:+ ks.take i) ∨ ∃ i : Nat, opn m ks j = i ∧ 0 < i ∧ i ≤ j ∧ m <:+ ks.take i ∧ ∀ q, 0 < q → q < i → ¬ m <:+ ks.take q
  | 0 => .inl ⟨rfl, fun i h1 h2 => by omega⟩
  | j + 1 => by
    rcases opn_cases m ks j with ⟨h1, h2⟩ | ⟨i, h1, h2, h3, h4, h5⟩
    · rw [opn, h1, if_neg (by decide)]
      by_cases h : m.isSuffixOf (ks.take (j + 1)) = true
      · rw [if_pos h]
        exact .inr ⟨j + 1, rfl, by omega, Nat.le_refl _, List.isSuffixOf_iff_suffix.1 h, fun q a b => h2 q a (by omega)⟩
      · rw [if_neg h]
        refine .inl ⟨rfl, fun i a b => ?_⟩
        rcases Nat.lt_or_ge i (j + 1) with c | c
        · exact h2 i a (by omega)
        · obtain rfl : i = j + 1 := by omega
          exact fun hh => h (List.isSuffixOf_iff_suffix.2 hh)
    · rw [opn, h1, if_pos (by omega)]
      exact .inr ⟨i, rfl, h2, by omega, h4, h5⟩
end Go.Proofs.Yteeppkhlnejfkaa
