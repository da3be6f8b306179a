/-
  SLICES THAT A MAP HOLDS: how they read, what leaves them as they are; slices.Clone of one of them.
-/
import Derived.Test.YtfjincdlenneaaaPzMazR
import Derived.Test.YtfjincdlenneaaaPzMap
namespace Go.Proofs.Ytfjincdlenneaaa
open Go.RowKit Go.Shelf
/-- a slice that holds these numbers: nil, or one with an address -/
def SlcR (w : World) (v : Value) (p : List Int) : Prop :=
  (v = nilS ∧ p = []) ∨ ∃ ad cp, v = .slice (some ad) p.length cp ∧ ad.block < w.heap.size ∧ IntsR w w.heap.size (some ad) p
theorem ints_grown {w w' : World} {ad : Addr} {p : List Int} {row : Option Nat} (h : IntsR w w.heap.size (some ad) p) (hg : w.grownBy w' row) (hne : some ad.block ≠ row) : IntsR w' w'.heap.size (some ad) p := fun h0 => by
  obtain ⟨ad', e, hl, hc⟩ := h h0
  have e' := Option.some.inj e
  subst e'
  exact ⟨ad, rfl, Nat.lt_of_lt_of_le hl hg.size, fun j hj => hg.cell (hc j hj) (by rw [block_of_add]; exact hne)⟩
theorem SlcR.kept {w w' : World} {v : Value} {p : List Int} {row : Option Nat} (h : SlcR w v p) (hg : w.grownBy w' row) (hne : v.ownBlock = none ∨ v.ownBlock ≠ row) : SlcR w' v p := by
  rcases h with ⟨rfl, rfl⟩ | ⟨ad, cp, rfl, hb, hi⟩
  · exact .inl ⟨rfl, rfl⟩
  · exact .inr ⟨ad, cp, rfl, Nat.lt_of_lt_of_le hb hg.size, ints_grown hi hg (hne.elim (fun h => by simp [Value.ownBlock] at h) (fun h => by simpa [Value.ownBlock] using h))⟩
theorem SlcR.call {w w' : World} {v : Value} {p : List Int} (h : SlcR w v p) (hb : Below w.heap.size w w') : SlcR w' v p := by
  rcases h with ⟨rfl, rfl⟩ | ⟨ad, cp, rfl, hl, hi⟩
  · exact .inl ⟨rfl, rfl⟩
  · exact .inr ⟨ad, cp, rfl, Nat.lt_of_lt_of_le hl hb.size, ints_call hb hi⟩
theorem SlcR.block {w : World} {v : Value} {p : List Int} (h : SlcR w v p) : ∀ k, v.ownBlock = some k → k < w.heap.size := by
  intro k hk
  rcases h with ⟨rfl, rfl⟩ | ⟨ad, cp, rfl, hl, hi⟩
  · simp [Value.ownBlock] at hk
  · simp [Value.ownBlock] at hk
    omega
theorem SlcR.of_own {w : World} {base : Nat} {v : Value} {p : List Int} (h : w.ownsRow base 3 1 v p.length (p.map I)) : SlcR w v p := by
  rcases h.2 with ⟨h1, h0⟩ | ⟨g, cap, cur, h1, h2, h3, _⟩
  · exact .inl ⟨h1, List.eq_nil_of_length_eq_zero h0⟩
  · obtain ⟨A, c, e, hi, _⟩ := own_ints h
    rw [h1] at e
    injection e with e1 e2 e3
    subst e1
    exact .inr ⟨_, cap, h1, (Array.getElem?_eq_some_iff.1 h3).1, hi⟩
/-- the slices of a map, apart from its own block and from that of a queue -/
structure RowsF (w : World) (B : Nat) (gq : Option Nat) (f : Nat → Option Value) (R : Nat → Option (List Int)) : Prop where
  non : ∀ c, R c = none → f c = none
  som : ∀ c p, R c = some p → ∃ v, f c = some v ∧ SlcR w v p ∧ v.ownBlock ≠ some B ∧ (v.ownBlock = none ∨ v.ownBlock ≠ gq)
theorem RowsF.call {w w' : World} {B : Nat} {gq : Option Nat} {f : Nat → Option Value} {R : Nat → Option (List Int)} (h : RowsF w B gq f R) (hb : Below w.heap.size w w') : RowsF w' B gq f R where
  non := h.non
  som := fun c p e => by
    obtain ⟨v, h1, h2, h3, h4⟩ := h.som c p e
    exact ⟨v, h1, h2.call hb, h3, h4⟩
theorem RowsF.mapped {w w' : World} {B : Nat} {gq : Option Nat} {f : Nat → Option Value} {R : Nat → Option (List Int)} (h : RowsF w B gq f R) (hg : w.grownBy w' (some B)) : RowsF w' B gq f R where
  non := h.non
  som := fun c p e => by
    obtain ⟨v, h1, h2, h3, h4⟩ := h.som c p e
    exact ⟨v, h1, h2.kept hg (.inr h3), h3, h4⟩
theorem RowsF.queued {w w' : World} {B : Nat} {gq gq' : Option Nat} {f : Nat → Option Value} {R : Nat → Option (List Int)} (h : RowsF w B gq f R) (hg : w.grownBy w' gq) (hq : gq' = gq ∨ gq' = some w.heap.size) : RowsF w' B gq' f R where
  non := h.non
  som := fun c p e => by
    obtain ⟨v, h1, h2, h3, h4⟩ := h.som c p e
    refine ⟨v, h1, h2.kept hg h4, h3, ?_⟩
    rcases hq with rfl | rfl
    · exact h4
    · cases hv : v.ownBlock with
      | none => exact .inl rfl
      | some k =>
        refine .inr fun e' => ?_
        have := h2.block k hv
        injection e' with e'
        omega
theorem RowsF.put {w : World} {B : Nat} {gq : Option Nat} {f : Nat → Option Value} {R : Nat → Option (List Int)} (h : RowsF w B gq f R) {k : Nat} {v : Value} {p : List Int} (h1 : SlcR w v p) (h2 : v.ownBlock ≠ some B) (h3 : v.ownBlock = none ∨ v.ownBlock ≠ gq) : RowsF w B gq (updV f k v) (updR R k p) where
  non := fun c e => by
    by_cases hc : c = k
    · subst hc; rw [updR_self] at e; cases e
    · rw [updR_other hc] at e
      simp [updV, hc, h.non c e]
  som := fun c q e => by
    by_cases hc : c = k
    · subst hc
      rw [updR_self] at e
      obtain rfl := Option.some.inj e
      exact ⟨v, by simp [updV], h1, h2, h3⟩
    · rw [updR_other hc] at e
      obtain ⟨u, h4, h5⟩ := h.som c q e
      exact ⟨u, by simp [updV, hc, h4], h5⟩
set_option maxRecDepth 100000 in
theorem clone_nil (w : World) : Calls Try.prog 115 #[nilS] w fun e w' => e = .returned nilS ∧ w' = w := by
  have hnil : ∀ W, (binOp .eql 29 nilS nilS).run Try.prog W = .ok (.bool true) W := fun W => Lib.run_eql_slice_nil_nil W _ _ Try.underlying29
  go_enter Try.func115, Try.ntmps115
  go_wp2
  go_ret
  exact ⟨rfl, rfl⟩
theorem clone_slc {v : Value} {p : List Int} {w : World} (h : SlcR w v p) (hl : p.length ≤ 1000) : Calls Try.prog 115 #[v] w fun e w' => ∃ v, e = .returned v ∧ w'.ownsRow w.heap.size 3 1 v p.length (p.map I) ∧ Below w.heap.size w w' := by
  rcases h with ⟨rfl, rfl⟩ | ⟨ad, cp, rfl, hb, hi⟩
  · refine (clone_nil w).mono ?_
    rintro e w' ⟨rfl, rfl⟩
    exact ⟨nilS, rfl, World.ownsRow_nil _ _ _ _, Below.refl _ _⟩
  · exact clone_any ad cp p w hi hl
end Go.Proofs.Ytfjincdlenneaaa
