/-
  LISTS OF LISTS IN MEMORY THAT THE CALL ITSELF MADE: what append leaves, and what is read of them.
-/
import Derived.Test.YthegmomjfbcabaaDoorCount
import Derived.WalkKit
namespace Go.Proofs.YthegmomjfbcabaaDoor
open Go.RowKit
section
variable {w w' : World} {base : Nat} {v u : Value}
/-- a list of lists, its blocks from base on -/
def Lists (w : World) (base : Nat) (v : Value) (xss : List (List Int)) : Prop :=
  ∃ vs : List Value, w.ownsRow base 24 1 v xss.length vs ∧ ∀ j (h : j < xss.length), ∃ u, vs[j]? = some u ∧ w.ownsRow base 3 1 u xss[j].length (xss[j].map I)
theorem Lists.nil (w : World) (base : Nat) : Lists w base (.slice none 0 0) [] := ⟨[], World.ownsRow_nil _ _ _ _, fun j h => absurd h (Nat.not_lt_zero j)⟩
theorem own_grown {e : TypeId} {s n : Nat} {xs : List Value} (h : w.ownsRow base e s v n xs) (hg : w.grownBy w' none) : w'.ownsRow base e s v n xs := h.kept hg (by cases v.ownBlock <;> simp)
theorem grown_of_below {B : Nat} (h : Below B w w') (hB : w.heap.size ≤ B) : w.grownBy w' none := ⟨h.os, h.tape, h.output, h.size, fun k hk _ => h.block k (by omega)⟩
theorem Lists.grown {xss : List (List Int)} (h : Lists w base v xss) (hg : w.grownBy w' none) : Lists w' base v xss := by
  obtain ⟨vs, h1, h2⟩ := h
  refine ⟨vs, own_grown h1 hg, fun j hj => ?_⟩
  obtain ⟨u, e, h3⟩ := h2 j hj
  exact ⟨u, e, own_grown h3 hg⟩
theorem Lists.below {B : Nat} {xss : List (List Int)} (h : Lists w base v xss) (hb : Below B w w') (hB : w.heap.size ≤ B) : Lists w' base v xss := h.grown (grown_of_below hb hB)
theorem own_apart {e1 e2 : TypeId} {s1 s2 n m b1 b2 : Nat} {xs ys : List Value} (h1 : w.ownsRow b1 e1 s1 v n xs) (h2 : w.ownsRow b2 e2 s2 u m ys) (he : e1 ≠ e2) : u.ownBlock = none ∨ u.ownBlock ≠ v.ownBlock := by
  rcases h2.2 with ⟨rfl, _⟩ | ⟨g, cap, cur, rfl, _, hg, _⟩
  · exact .inl rfl
  · rcases h1.2 with ⟨rfl, _⟩ | ⟨g', cap', cur', rfl, _, hg', _⟩
    · exact .inr (by simp [Value.ownBlock])
    · refine .inr ?_
      simp only [Value.ownBlock, ne_eq, Option.some.injEq]
      rintro rfl
      rw [hg] at hg'
      injection hg' with hg'
      injection hg' with _ hg'
      exact he hg'.symm
theorem ne_types : 24 ≠ 3 := by decide
theorem snoc_lists {w2 : World} {v' : Value} {xss : List (List Int)} {x : List Int} {vs : List Value} (hown : w.ownsRow base 24 1 v xss.length vs)
    (hin : ∀ j (h : j < xss.length), ∃ u, vs[j]? = some u ∧ w.ownsRow base 3 1 u xss[j].length (xss[j].map I)) (hu : w.ownsRow base 3 1 u x.length (x.map I))
    (h2 : w.grownBy w2 none) (hown' : w'.ownsRow base 24 1 v' (xss.length + 1) (vs ++ [u])) (hgrow : w2.grownBy w' v.ownBlock) : Lists w' base v' (xss ++ [x]) := by
  have hlen : vs.length = xss.length := by have := hown.1; omega
  have hv2 := own_grown hown h2
  refine ⟨vs ++ [u], by simpa using hown', fun j hj => ?_⟩
  by_cases hlt : j < xss.length
  · obtain ⟨y, e, h3⟩ := hin j hlt
    rw [List.getElem_append_left hlt]
    exact ⟨y, by rw [List.getElem?_append_left (by omega)]; exact e, (own_grown h3 h2).kept hgrow (own_apart hv2 (own_grown h3 h2) ne_types)⟩
  · have hj' : j = xss.length := by simp at hj; omega
    subst hj'
    refine ⟨u, by rw [List.getElem?_append_right (by omega)]; simp [hlen], ?_⟩
    simp only [List.getElem_append_right (Nat.le_refl _), Nat.sub_self, List.getElem_cons_zero]
    exact (own_grown hu h2).kept hgrow (own_apart hv2 (own_grown hu h2) ne_types)
theorem own_ints {x : List Int} (h : w.ownsRow base 3 1 u x.length (x.map I)) : ∃ (A : Option Addr) (c : Nat), u = .slice A x.length c ∧ IntsR w w.heap.size A x ∧ x.length ≤ maxLen := by
  rcases h.2 with ⟨rfl, h0⟩ | ⟨g, cap, cur, rfl, _, hg, h1, h2, h3, h4⟩
  · exact ⟨none, 0, by rw [h0], fun h => absurd h (by omega), by omega⟩
  · refine ⟨some ⟨g, 0, none⟩, cap, rfl, fun h0 => ⟨_, rfl, (Array.getElem?_eq_some_iff.1 hg).1, fun j hj => ?_⟩, by omega⟩
    have hadd : (⟨g, 0, none⟩ : Addr).add j = ⟨g, j, none⟩ := by unfold Addr.add; split <;> simp_all
    rw [hadd, nth_lt hj]
    have hc : w.cell? ⟨g, j, none⟩ = cur[j]? := by
      have hg' : w.heap[g]? = some (.cells cur.toList.toArray 3 (0, 0)) := by simpa using hg
      have := cell_of_row w g j _ _ _ hg'
      simpa using this
    rw [hc, ← Array.getElem?_toList]
    have h5 : (cur.toList.take (x.length * 1))[j]? = some (I x[j]) := by rw [h4]; simp [hj]
    rwa [List.getElem?_take_of_lt (by omega)] at h5
theorem Lists.sls {xss : List (List Int)} (h : Lists w base v xss) : ∃ (A : Option Addr) (c : Nat), v = .slice A xss.length c ∧ SlsR w w.heap.size A xss ∧ xss.length ≤ maxLen ∧ xss.length ≤ c := by
  obtain ⟨vs, hown, hin⟩ := h
  rcases hown.2 with ⟨rfl, h0⟩ | ⟨g, cap, cur, rfl, _, hg, h1, h2, h3, h4⟩
  · exact ⟨none, 0, by rw [h0], fun h => absurd h (by omega), by omega, by omega⟩
  · refine ⟨some ⟨g, 0, none⟩, cap, rfl, fun h0 => ⟨_, rfl, (Array.getElem?_eq_some_iff.1 hg).1, fun j hj => ?_⟩, by omega, h1⟩
    obtain ⟨u, e, h5⟩ := hin j hj
    obtain ⟨A, c, rfl, hi, hm⟩ := own_ints h5
    refine ⟨A, c, ?_, hi, hm⟩
    have hadd : (⟨g, 0, none⟩ : Addr).add j = ⟨g, j, none⟩ := by unfold Addr.add; split <;> simp_all
    rw [hadd]
    have hc : w.cell? ⟨g, j, none⟩ = cur[j]? := by
      have hg' : w.heap[g]? = some (.cells cur.toList.toArray 24 (0, 0)) := by simpa using hg
      have := cell_of_row w g j _ _ _ hg'
      simpa using this
    rw [hc, ← Array.getElem?_toList]
    rw [← h4] at e
    rwa [List.getElem?_take_of_lt (by omega)] at e
theorem own_base {b e s n : Nat} {xs : List Value} (h : w.ownsRow base e s v n xs) (hb : b ≤ base) : w.ownsRow b e s v n xs := by
  refine ⟨h.1, ?_⟩
  rcases h.2 with h0 | ⟨g, cap, cur, h1, h2, h3⟩
  · exact .inl h0
  · exact .inr ⟨g, cap, cur, h1, by omega, h3⟩
theorem Lists.rebase {b : Nat} {xss : List (List Int)} (h : Lists w base v xss) (hb : b ≤ base) : Lists w b v xss := by
  obtain ⟨vs, h1, h2⟩ := h
  refine ⟨vs, own_base h1 hb, fun j hj => ?_⟩
  obtain ⟨u, e, h3⟩ := h2 j hj
  exact ⟨u, e, own_base h3 hb⟩
/-- a full block is owned -/
theorem own_block {g : Nat} {x : List Int} (hg : w.heap[g]? = some (.cells (x.map I).toArray 3 (0, 0))) (hb : base ≤ g) (hl : x.length ≤ maxLen) : w.ownsRow base 3 1 (.slice (some ⟨g, 0, none⟩) x.length x.length) x.length (x.map I) :=
  ⟨by simp, .inr ⟨g, x.length, _, rfl, hb, hg, Nat.le_refl _, hl, by simp, by simp [List.take_of_length_le]⟩⟩
/-- what 'make' made, cell by cell -/
theorem block_own {g n : Nat} {e : TypeId} {xs : List Value} (h : w.ownsRow base e 1 (.slice (some ⟨g, 0, none⟩) n n) n xs) : w.heap[g]? = some (.cells xs.toArray e (0, 0)) := by
  rcases h.2 with ⟨h0, _⟩ | ⟨g', cap, cur, h0, _, hg, h1, h2, h3, h4⟩
  · exact absurd h0 (by simp)
  · injection h0 with h0 _ h5
    injection h0 with h0
    injection h0 with h0
    subst h0 h5
    rw [hg, ← h4, List.take_of_length_le (by simp; omega)]
theorem ints_block {g : Nat} {t : TypeId} {x : List Int} (hg : w.heap[g]? = some (.cells (x.map I).toArray t (0, 0))) : IntsR w w.heap.size (some ⟨g, 0, none⟩) x := fun h0 => by
  refine ⟨_, rfl, (Array.getElem?_eq_some_iff.1 hg).1, fun j hj => ?_⟩
  have hadd : (⟨g, 0, none⟩ : Addr).add j = ⟨g, j, none⟩ := by unfold Addr.add; split <;> simp_all
  rw [hadd, cell_of_row w g j _ _ _ hg, nth_lt hj]
  simp [hj]
end
theorem info_sl : (Tryd.prog.info? 24).map (fun i => (i.zero, i.size, i.bytes)) = some (some (.slice none 0 0), 1, 24) := by kernel_rfl
theorem info_int : (Tryd.prog.info? 3).map (fun i => (i.zero, i.size, i.bytes)) = some (some (.int .i64 0), 1, 8) := by kernel_rfl
end Go.Proofs.YthegmomjfbcabaaDoor
