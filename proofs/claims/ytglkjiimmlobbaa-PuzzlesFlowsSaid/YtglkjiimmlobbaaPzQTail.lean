/-
  A REGION THAT DRAWS ITS ORDER: what only reads, by the cheap step, ahead of a tail in one forced order.
-/
import Derived.Test.YtglkjiimmlobbaaPzQIn
import Derived.StillTailTactics
namespace Go
section
variable {P : Program} {ops : Array Oper} {Q : Act → Prop} {W : World}
theorem still_of_quiet {o : Oper} {a : Act} {K K' : Act → Prop} (hK : ∀ a, K a → K' a) (h : o.quiet P a (fun w' => w' = W) K) : o.still P a W K' := by
  obtain ⟨v, h1, h2⟩ := h
  have h3 := h1 W rfl
  unfold Oper.still Oper.stillUpon
  unfold Oper.quietAt Oper.quietUpon at h3
  revert h3
  cases (execOp a.eval o).run P W with
  | ok x w' =>
    cases x <;> intro h3 <;> first
      | exact (h3 : False).elim
      | (obtain ⟨e1, e2⟩ := h3; subst e2; exact ⟨e1, hK _ h2⟩)
      | (obtain ⟨e1, e2⟩ := h3; subst e1; exact ⟨rfl, _, e2, hK _ h2⟩)
  | halt x w' => intro h3; exact (h3 : False).elim
theorem wpStill_of_wpQuiet : ∀ (l : List Oper) (a : Act), wpQuiet P ops (fun w' => w' = W) Q l a → wpStill P ops W Q l a := by
  intro l
  induction l with
  | nil => exact fun a h => h
  | cons o rest ih =>
    intro a h
    simp only [wpQuiet] at h
    simp only [wpStill]
    by_cases hw : Region.wanted o (yielded ops a.tmps) = true
    · rw [if_pos hw] at h ⊢
      exact still_of_quiet ih h
    · rw [if_neg hw] at h ⊢
      exact ih _ h
theorem wp_region_qtail {id : Nat} {Q : Exit → Act → World → Prop} {a : Act} {w : World} {l : List Oper} (n : Nat) (hm : P.follows .mixedOrders = true) (hB : Region.lexTailB .any l.toArray n = true)
    (h : wpQuiet P l.toArray (fun w' => w' = w.drew) (fun a' => wpList P l.toArray Q (l.drop n) a' w.drew) (l.take n) a) : (Code.region id l.toArray true).wp P Q a w :=
  wp_region_still_tail n hm hB (wpStill_of_wpQuiet _ _ h)
end
end Go
