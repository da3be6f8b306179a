/-
  LAYER 6, PURE: what holds of a player between two steps.
-/
import Derived.Test.YtehoaenkkmmobaaSrT
import Derived.Test.YtehoaenkkmmobaaSrQ
namespace Go.Proofs.Ytehoaenkkmmobaa
open Go.RowKit Go.Shelf
structure PInv (E : Nat → List Nat) (n tu most : Nat) (s : PSt) : Prop where
  at_ : s.at_ < n
  nd : s.mem.Nodup
  len : s.mem.length ≤ most
  lk : ∀ q ∈ s.mem, q.1 < n ∧ q.2 < (E q.1).length
  bk : PathB E tu s.mem s.at_ s.back
  ls : s.lost = true → s.back = []
section
variable {E : Nat → List Nat} {n tu most : Nat} {s : PSt}
theorem PInv.start (h : 0 < n) : PInv E n tu most iniP where
  at_ := h
  nd := List.nodup_nil
  len := Nat.zero_le _
  lk := fun q hq => by cases hq
  bk := trivial
  ls := fun _ => rfl
theorem untr_lt {mem : List Lk} {p e : Nat} (h : untr E tu mem p = some e) : e < (E p).length := by
  have := List.mem_of_find?_eq_some h
  rw [ord, List.mem_map] at this
  obtain ⟨i, hi, rfl⟩ := this
  have hi' := List.mem_range.1 hi
  exact Nat.mod_lt _ (by omega)
theorem firM_lt {mem : List Lk} {p : Nat} (hl : ∀ q ∈ mem, q.1 < n ∧ q.2 < (E q.1).length) (h : ∃ q ∈ mem, q.1 = p) : firM mem p < (E p).length := by
  unfold firM
  cases e : mem.find? (fun l => l.1 == p) with
  | none =>
    obtain ⟨q, hq, hp⟩ := h
    rw [List.find?_eq_none] at e
    exact absurd (by simpa using hp) (e q hq)
  | some q =>
    have h1 := List.mem_of_find?_eq_some e
    have h2 := List.find?_some e
    have h3 : q.1 = p := by simpa using h2
    rw [← h3]
    exact (hl q h1).2
/-- what next names is an edge, and what is left of the way back is one behind it -/
theorem PInv.nxt (h : PInv E n tu most s) (ht : ∀ p, p < n → ∀ j, j < (E p).length → tgt E p j < n) (hne : 0 < (E s.at_).length) :
    (nxtP E n tu s).1 < (E s.at_).length ∧ PathB E tu (addM most s.mem (s.at_, (nxtP E n tu s).1)) (tgt E s.at_ (nxtP E n tu s).1) (nxtP E n tu s).2.1 ∧ ((nxtP E n tu s).2.2 = true → (nxtP E n tu s).2.1 = []) := by
  obtain ⟨at_, mem, back, lost, trail⟩ := s
  have hb := h.bk
  have hls := h.ls
  simp only at hb hls hne
  cases hq : untr E tu mem at_ with
  | some e =>
    have hN : nxtP E n tu ⟨at_, mem, back, lost, trail⟩ = (e, back, lost) := by simp only [nxtP, hq]
    rw [hN]
    have hbk : back = [] := by
      cases back with
      | nil => rfl
      | cons x t => have h1 : untr E tu mem at_ = none := hb.1; rw [hq] at h1; cases h1
    subst hbk
    exact ⟨untr_lt hq, trivial, fun _ => rfl⟩
  | none =>
    have hpop : ∀ x t, PathB E tu mem at_ (x :: t) → x < (E at_).length ∧ PathB E tu (addM most mem (at_, x)) (tgt E at_ x) t := fun x t hp =>
      ⟨hp.2.1, PathB.congr (fun q => (addM_old h.nd h.len (untr_none_iff.1 hp.1 x hp.2.1) q).symm) _ _ hp.2.2⟩
    have hfir := firM_lt h.lk (untr_mem hq hne)
    cases lost with
    | true =>
      have hbk := hls rfl
      subst hbk
      have hN : nxtP E n tu ⟨at_, mem, [], true, trail⟩ = (firM mem at_, [], true) := by simp [nxtP, hq]
      rw [hN]
      exact ⟨hfir, trivial, fun _ => rfl⟩
    | false =>
      cases back with
      | cons x t =>
        have hN : nxtP E n tu ⟨at_, mem, x :: t, false, trail⟩ = (x, t, false) := by simp [nxtP, hq]
        rw [hN]
        obtain ⟨h1, h2⟩ := hpop x t hb
        exact ⟨h1, h2, fun e => by cases e⟩
      | nil =>
        have hw := wayB_ok ht h.at_ hq
        simp only at hw
        cases hW : wayB E n tu mem at_ with
        | nil =>
          have hN : nxtP E n tu ⟨at_, mem, [], false, trail⟩ = (firM mem at_, [], true) := by simp [nxtP, hq, hW]
          rw [hN]
          exact ⟨hfir, trivial, fun _ => rfl⟩
        | cons x t =>
          have hN : nxtP E n tu ⟨at_, mem, [], false, trail⟩ = (x, t, false) := by simp [nxtP, hq, hW]
          rw [hN]
          rw [hW] at hw
          obtain ⟨h1, h2⟩ := hpop x t hw
          exact ⟨h1, h2, fun e => by cases e⟩
theorem PInv.step (h : PInv E n tu most s) (ht : ∀ p, p < n → ∀ j, j < (E p).length → tgt E p j < n) (hne : 0 < (E s.at_).length) : PInv E n tu most (stpP E n tu most s) := by
  obtain ⟨h1, h2, h3⟩ := h.nxt ht hne
  exact {
    at_ := ht _ h.at_ _ h1
    nd := addM_nodup h.nd
    len := addM_len h.len
    lk := fun q hq => by
      rcases addM_mem hq with hq | rfl
      · exact h.lk q hq
      · exact ⟨h.at_, h1⟩
    bk := h2
    ls := h3 }
end
end Go.Proofs.Ytehoaenkkmmobaa
