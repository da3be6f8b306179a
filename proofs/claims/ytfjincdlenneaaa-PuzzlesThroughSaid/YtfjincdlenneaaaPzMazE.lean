/-
  PURE FACTS: the best list of moves between two cells of a maze.
-/
import Derived.Test.YtfjincdlenneaaaPzMazP
namespace Go.Proofs.Ytfjincdlenneaaa
/-- the first of the shortest lists of moves -/
def Best (W H : Nat) (wall : Nat → Bool) (fr t : Nat) (p : List Int) : Prop := Mv p ∧ wlk W H wall fr p = t ∧ ∀ q, Mv q → wlk W H wall fr q = t → cod p ≤ cod q
open Classical in
noncomputable def escO (W H : Nat) (wall : Nat → Bool) (fr t : Nat) : Option (List Int) := if h : ∃ p, Best W H wall fr t p then some (Classical.choose h) else none
section
variable {W H : Nat} {wall : Nat → Bool} {fr t : Nat}
theorem Best.unique {p p' : List Int} (h : Best W H wall fr t p) (h' : Best W H wall fr t p') : p = p' :=
  cod_inj p p' h.1 h'.1 (Nat.le_antisymm (h.2.2 p' h'.1 h'.2.1) (h'.2.2 p h.1 h.2.1))
theorem esc_best {p : List Int} (h : Best W H wall fr t p) : escO W H wall fr t = some p := by
  have hex : ∃ p, Best W H wall fr t p := ⟨p, h⟩
  unfold escO
  rw [dif_pos hex, (Classical.choose_spec hex).unique h]
theorem esc_some {p : List Int} (h : escO W H wall fr t = some p) : Best W H wall fr t p := by
  unfold escO at h
  split at h
  · rename_i hex
    rw [← Option.some.inj h]
    exact Classical.choose_spec hex
  · cases h
theorem best_of {q : List Int} (h1 : Mv q) (h2 : wlk W H wall fr q = t) : ∃ p, Best W H wall fr t p := by
  have key : ∀ n, ∀ q, Mv q → wlk W H wall fr q = t → cod q ≤ n → ∃ p, Best W H wall fr t p := by
    intro n
    induction n with
    | zero =>
      intro q h1 h2 h3
      exact ⟨q, h1, h2, fun r _ _ => by omega⟩
    | succ n ih =>
      intro q h1 h2 h3
      by_cases hex : ∃ r, Mv r ∧ wlk W H wall fr r = t ∧ cod r < cod q
      · obtain ⟨r, hr1, hr2, hr3⟩ := hex
        exact ih r hr1 hr2 (by omega)
      · refine ⟨q, h1, h2, fun r hr1 hr2 => ?_⟩
        rcases Nat.lt_or_ge (cod r) (cod q) with h | h
        · exact absurd ⟨r, hr1, hr2, h⟩ hex
        · exact h
  exact key _ q h1 h2 (Nat.le_refl _)
theorem esc_isSome : (escO W H wall fr t).isSome = true ↔ ∃ q, Mv q ∧ wlk W H wall fr q = t := by
  constructor
  · intro h
    obtain ⟨p, hp⟩ := Option.isSome_iff_exists.1 h
    have := esc_some hp
    exact ⟨p, this.1, this.2.1⟩
  · rintro ⟨q, h1, h2⟩
    obtain ⟨p, hp⟩ := best_of h1 h2
    rw [esc_best hp]
    rfl
theorem esc_none (h : escO W H wall fr t = none) {q : List Int} (h1 : Mv q) : wlk W H wall fr q ≠ t := fun h2 => by
  obtain ⟨p, hp⟩ := best_of h1 h2
  rw [esc_best hp] at h
  cases h
/-- what the search finds -/
theorem Fnd.esc {R : Nat → Option (List Int)} (h : Fnd W H wall fr R) : R = fun t => escO W H wall fr t := by
  funext t
  cases hR : R t with
  | some p =>
    have h1 := h.path t p hR
    refine (esc_best ⟨h1.1, h1.2.1, fun q hq hw => ?_⟩).symm
    obtain ⟨p', h2, h3⟩ := h.least q hq
    rw [hw, hR] at h2
    obtain rfl := Option.some.inj h2
    exact h3
  | none =>
    cases he : escO W H wall fr t with
    | none => rfl
    | some p =>
      have h1 := esc_some he
      obtain ⟨p', h2, _⟩ := h.least p h1.1
      rw [h1.2.1, hR] at h2
      cases h2
theorem esc_in {p : List Int} (hW : 1 ≤ W) (hc : fr < W * H) (hw : wall fr = false) (h : escO W H wall fr t = some p) : t < W * H ∧ wall t = false := by
  have := esc_some h
  rw [← this.2.1]
  exact wlk_in hW hc hw p this.1
end
end Go.Proofs.Ytfjincdlenneaaa
