/-
  LAYER 6, PURE: the way back leads along positions all of whose edges are remembered.
-/
import Derived.Test.YtehoaenkkmmobaaSrO
import Derived.Test.YtehoaenkkmmobaaSrS
namespace Go.Proofs.Ytehoaenkkmmobaa
open Go.RowKit Go.Shelf
def endOf (E : Nat → List Nat) : Nat → List Nat → Nat
  | p, [] => p
  | p, e :: t => endOf E (tgt E p e) t
section
variable {E : Nat → List Nat} {n tu : Nat} {mem : List Lk}
theorem endOf_snoc (e : Nat) : ∀ (l : List Nat) (p : Nat), endOf E p (l ++ [e]) = tgt E (endOf E p l) e := by
  intro l
  induction l with
  | nil => exact fun _ => rfl
  | cons a t ih => exact fun p => ih _
theorem PathB.snoc {e : Nat} : ∀ (l : List Nat) (p : Nat), PathB E tu mem p l → untr E tu mem (endOf E p l) = none → e < (E (endOf E p l)).length → PathB E tu mem p (l ++ [e]) := by
  intro l
  induction l with
  | nil => exact fun p _ h1 h2 => ⟨h1, h2, trivial⟩
  | cons a t ih => exact fun p h h1 h2 => ⟨h.1, h.2.1, ih _ h.2.2 h1 h2⟩
/-- every known position but the first is reached by an edge of a position all of whose edges are remembered -/
def Good (E : Nat → List Nat) (tu : Nat) (mem : List Lk) (st : Nat) (W : Nat → Option Lk) : Prop := ∀ x l, W x = some l → x = st ∨ (untr E tu mem l.1 = none ∧ l.2 < (E l.1).length ∧ tgt E l.1 l.2 = x)
theorem Good.start (st : Nat) : Good E tu mem st (waysP st) := fun x l h => by
  unfold waysP at h
  by_cases e : x = st
  · exact .inl e
  · rw [if_neg e] at h; cases h
theorem Good.edge {st p k : Nat} {s : (Nat → Option Lk) × List Nat} (h : Good E tu mem st s.1) (hp : untr E tu mem p = none) (hk : k < (E p).length) : Good E tu mem st (sprE E p s k).1 := by
  cases e : s.1 (tgt E p k) with
  | some l => rw [sprE_some e]; exact h
  | none =>
    rw [sprE_none e]
    intro x l hx
    have hx' : (if x = tgt E p k then some (p, k) else s.1 x) = some l := hx
    by_cases q : x = tgt E p k
    · rw [if_pos q] at hx'
      injection hx' with hx'
      subst hx'
      exact .inr ⟨hp, hk, q.symm⟩
    · rw [if_neg q] at hx'
      exact h x l hx'
theorem Good.pos {st p : Nat} {s : (Nat → Option Lk) × List Nat} (h : Good E tu mem st s.1) (hp : untr E tu mem p = none) (k : Nat) (hk : k ≤ (E p).length) : Good E tu mem st (sprP E p k s).1 := by
  induction k with
  | zero => exact h
  | succ k ih => rw [sprP_succ]; exact (ih (by omega)).edge hp (by omega)
theorem Good.all {st : Nat} (lv : List Nat) (hl : ∀ p ∈ lv, untr E tu mem p = none) : ∀ s : (Nat → Option Lk) × List Nat, Good E tu mem st s.1 → Good E tu mem st (sprA E lv s).1 := by
  induction lv with
  | nil => exact fun s h => h
  | cons p t ih =>
    intro s h
    exact ih (fun q hq => hl q (by simp [hq])) _ (h.pos (hl p (by simp)) _ (Nat.le_refl _))
theorem Good.path {st : Nat} {W : Nat → Option Lk} (h : Good E tu mem st W) : ∀ f x, wayOk W st n f x → PathB E tu mem st (edg W st f x) ∧ endOf E st (edg W st f x) = x := by
  intro f
  induction f with
  | zero =>
    intro x hx
    have hx' : st = x := hx
    subst hx'
    exact ⟨trivial, rfl⟩
  | succ f ih =>
    intro x hx
    by_cases e : st = x
    · subst e
      rw [edg_start]
      exact ⟨trivial, rfl⟩
    · obtain ⟨l, h1, h2, h3⟩ := hx.resolve_left e
      rw [edg_go e h1]
      obtain ⟨i1, i2⟩ := ih l.1 h3
      obtain ⟨g1, g2, g3⟩ := (h x l h1).resolve_left (fun q => e q.symm)
      refine ⟨i1.snoc _ _ (by rw [i2]; exact g1) (by rw [i2]; exact g2), ?_⟩
      rw [endOf_snoc, i2, g3]
theorem wayB_path {at_ : Nat} (ht : ∀ p, p < n → ∀ j, j < (E p).length → tgt E p j < n) : ∀ (f : Nat) (W : Nat → Option Lk) (lvl : List Nat), WBk E n tu mem at_ f W lvl → Good E tu mem at_ W → (∀ x ∈ lvl, untr E tu mem x = none) → lvl ≠ [] → PathB E tu mem at_ (wayB E n tu mem at_) := by
  intro f
  induction f with
  | zero =>
    intro W lvl hK _ _ hne
    obtain ⟨f', e⟩ := hK.pos hne
    cases e
  | succ f ih =>
    intro W lvl hK hG hU hne
    have hG' := hG.all lvl hU (W, [])
    by_cases hE : ((sprA E lvl (W, [])).2.filter fun x => (untr E tu mem x).isSome) = []
    · have hN := hK.next ht hne hE
      by_cases h2 : (sprA E lvl (W, [])).2 = []
      · rw [h2] at hN
        rw [hN.miss]
        trivial
      · refine ih _ _ hN hG' (fun x hx => ?_) h2
        rw [List.filter_eq_nil_iff] at hE
        have := hE x hx
        cases q : untr E tu mem x with
        | none => rfl
        | some a => rw [q] at this; simp at this
    · obtain ⟨m, h1, h2⟩ := min_ex hE
      obtain ⟨e, hw, -⟩ := hK.hit ht hne h1 h2
      rw [e]
      exact (hG'.path (n := n) _ _ hw).1
/-- the way back from a position all of whose edges are remembered -/
theorem wayB_ok {at_ : Nat} (ht : ∀ p, p < n → ∀ j, j < (E p).length → tgt E p j < n) (hat : at_ < n) (hu : untr E tu mem at_ = none) : PathB E tu mem at_ (wayB E n tu mem at_) :=
  wayB_path ht _ _ _ (WBk.start hat) (Good.start at_) (fun x hx => by simp at hx; subst hx; exact hu) (by simp)
end
end Go.Proofs.Ytehoaenkkmmobaa
