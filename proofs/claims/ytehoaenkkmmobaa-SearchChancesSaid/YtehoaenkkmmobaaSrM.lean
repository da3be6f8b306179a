/-
  LAYER 6, PURE: what is known behind a spread; ways that end.
-/
import Derived.Test.YtehoaenkkmmobaaSrL
namespace Go.Proofs.Ytehoaenkkmmobaa
open Go.RowKit Go.Shelf
/-- between W and what has become of it -/
structure Ext (n : Nat) (W : Nat → Option Lk) (s : (Nat → Option Lk) × List Nat) : Prop where
  old : ∀ x l, W x = some l → s.1 x = some l
  new : ∀ x l, s.1 x = some l → W x = some l ∨ ((W l.1).isSome = true ∧ l.1 < n)
  mem : ∀ x ∈ s.2, (s.1 x).isSome = true ∧ x < n
  num : kn s.1 n = kn W n + s.2.length
theorem Ext.refl (n : Nat) (W : Nat → Option Lk) : Ext n W (W, []) := ⟨fun _ _ h => h, fun _ _ h => .inl h, fun _ h => by simp at h, by simp⟩
theorem Ext.step {n : Nat} {E : Nat → List Nat} {W : Nat → Option Lk} {s : (Nat → Option Lk) × List Nat} (h : Ext n W s) {p k : Nat} (hp : (W p).isSome = true) (hpn : p < n) (ht : tgt E p k < n) : Ext n W (sprE E p s k) := by
  cases e : s.1 (tgt E p k) with
  | some l => rw [sprE_some e]; exact h
  | none =>
    rw [sprE_none e]
    refine ⟨fun x l hx => ?_, fun x l hx => ?_, fun x hx => ?_, ?_⟩
    · have := h.old x l hx
      show (if x = tgt E p k then some (p, k) else s.1 x) = some l
      rw [if_neg (fun q => by rw [q, e] at this; cases this)]
      exact this
    · have hx' : (if x = tgt E p k then some (p, k) else s.1 x) = some l := hx
      by_cases q : x = tgt E p k
      · rw [if_pos q] at hx'
        injection hx' with hx'
        subst hx'
        exact .inr ⟨hp, hpn⟩
      · rw [if_neg q] at hx'
        exact h.new x l hx'
    · show ((if x = tgt E p k then some (p, k) else s.1 x)).isSome = true ∧ x < n
      by_cases q : x = tgt E p k
      · rw [if_pos q, q]; exact ⟨rfl, ht⟩
      · rw [if_neg q]
        have hx' : x ∈ s.2 ++ [tgt E p k] := hx
        rw [List.mem_append, List.mem_singleton] at hx'
        exact h.mem x (hx'.resolve_right q)
    · have := kn_put (W := s.1) (x := tgt E p k) (l := (p, k)) n e
      rw [if_pos ht] at this
      show kn (fun x => if x = tgt E p k then some (p, k) else s.1 x) n = kn W n + (s.2 ++ [tgt E p k]).length
      rw [this, h.num, List.length_append, List.length_singleton]
      omega
theorem Ext.pos {n : Nat} {E : Nat → List Nat} {W : Nat → Option Lk} {s : (Nat → Option Lk) × List Nat} (h : Ext n W s) {p : Nat} (hp : (W p).isSome = true) (hpn : p < n) (k : Nat) (hk : k ≤ (E p).length) (ht : ∀ j, j < (E p).length → tgt E p j < n) : Ext n W (sprP E p k s) := by
  induction k with
  | zero => exact h
  | succ k ih => rw [sprP_succ]; exact (ih (by omega)).step hp hpn (ht k (by omega))
theorem Ext.all {n : Nat} {E : Nat → List Nat} {W : Nat → Option Lk} (ht : ∀ p, p < n → ∀ j, j < (E p).length → tgt E p j < n) (lv : List Nat) (hl : ∀ p ∈ lv, (W p).isSome = true ∧ p < n) : ∀ s, Ext n W s → Ext n W (sprA E lv s) := by
  induction lv with
  | nil => exact fun s h => h
  | cons p t ih =>
    intro s h
    have hp := hl p (by simp)
    exact ih (fun q hq => hl q (by simp [hq])) _ (h.pos hp.1 hp.2 _ (Nat.le_refl _) (ht p hp.2))
theorem wayOk_ext {W W' : Nat → Option Lk} {st n : Nat} (h : ∀ x l, W x = some l → W' x = some l) : ∀ d x, wayOk W st n d x → wayOk W' st n d x := by
  intro d
  induction d with
  | zero => exact fun x h => h
  | succ d ih =>
    intro x hx
    rcases hx with hx | ⟨l, h1, h2, h3⟩
    · exact .inl hx
    · exact .inr ⟨l, h x l h1, h2, ih _ h3⟩
theorem wayOk_succ {W : Nat → Option Lk} {st n : Nat} : ∀ d x, wayOk W st n d x → wayOk W st n (d + 1) x := by
  intro d
  induction d with
  | zero => exact fun x h => .inl h
  | succ d ih =>
    intro x hx
    rcases hx with hx | ⟨l, h1, h2, h3⟩
    · exact .inl hx
    · exact .inr ⟨l, h1, h2, ih _ h3⟩
theorem wayOk_le {W : Nat → Option Lk} {st n d d' : Nat} (h : d ≤ d') {x : Nat} (hx : wayOk W st n d x) : wayOk W st n d' x := by
  induction h with
  | refl => exact hx
  | step _ ih => exact wayOk_succ _ _ ih
/-- every known position is reached within d links -/
def Dep (W : Nat → Option Lk) (st n d : Nat) : Prop := ∀ x, (W x).isSome = true → wayOk W st n d x
theorem Dep.next {W : Nat → Option Lk} {st n d : Nat} {s : (Nat → Option Lk) × List Nat} (h : Dep W st n d) (e : Ext n W s) : Dep s.1 st n (d + 1) := fun x hx => by
  obtain ⟨l, hl⟩ := Option.isSome_iff_exists.1 hx
  rcases e.new x l hl with h1 | ⟨h1, h2⟩
  · exact wayOk_succ _ _ (wayOk_ext e.old _ _ (h x (by rw [h1]; rfl)))
  · exact .inr ⟨l, hl, h2, wayOk_ext e.old _ _ (h l.1 h1)⟩
theorem Dep.start (st n : Nat) : Dep (waysP st) st n 0 := fun x hx => by
  unfold waysP at hx
  by_cases e : x = st
  · exact e.symm
  · rw [if_neg e] at hx; cases hx
theorem wbk_nil (E : Nat → List Nat) (t : Nat) (mem : List Lk) (f : Nat) (W : Nat → Option Lk) : wbk E t mem f W [] = none := by cases f <;> simp [wbk]
theorem kn_start {st n : Nat} (h : st < n) : kn (waysP st) n = 1 := by
  have := kn_put (W := fun _ => none) (x := st) (l := (0, 0)) n rfl
  rw [if_pos h] at this
  have e : kn (fun _ => none) n = 0 := by simp [kn]
  rw [e] at this
  exact this
theorem min_eq {l : List Nat} {m : Nat} (h1 : m ∈ l) (h2 : ∀ x ∈ l, m ≤ x) : l.min? = some m := by
  rw [List.min?_eq_some_iff]
  exact ⟨h1, h2⟩
end Go.Proofs.Ytehoaenkkmmobaa
