/-
  Mathematics of water in pipes: to where it comes, and where it leaks.
-/
import Derived.Test.YtfjincdlenneaaaPzGrd
namespace Go.Proofs.Ytfjincdlenneaaa
/-- the next cell into which water comes at a side -/
def adjO (W H : Nat) (op : Nat → Nat) (c s : Nat) : Option Nat :=
  if (op c).testBit s then (match nxO W H c s with | some k => if (op k).testBit ((s + 2) % 4) then some k else none | none => none) else none
/-- does it leak at a side? -/
def lkB (W H : Nat) (op : Nat → Nat) (c s : Nat) : Bool := (op c).testBit s && (adjO W H op c s).isNone
/-- leaks of a cell from a side on -/
def lkF (W H : Nat) (op : Nat → Nat) (c s : Nat) : Nat := ((List.range 4).filter fun t => decide (s ≤ t) && lkB W H op c t).length
theorem lkF_end (W H : Nat) (op : Nat → Nat) (c : Nat) : lkF W H op c 4 = 0 := by
  have : ((List.range 4).filter fun t => decide (4 ≤ t) && lkB W H op c t) = [] := by
    rw [List.filter_eq_nil_iff]
    intro t ht
    have := List.mem_range.1 ht
    simp; omega
  rw [lkF, this]; rfl
theorem lkF_step (W H : Nat) (op : Nat → Nat) (c s : Nat) (hs : s ≤ 3) : lkF W H op c s = (if lkB W H op c s then 1 else 0) + lkF W H op c (s + 1) := by
  have h4 : s = 0 ∨ s = 1 ∨ s = 2 ∨ s = 3 := by omega
  have e : List.range 4 = [0, 1, 2, 3] := rfl
  rcases h4 with rfl | rfl | rfl | rfl
  all_goals
    rw [lkF, lkF, e]
    cases h0 : lkB W H op c 0 <;> cases h1 : lkB W H op c 1 <;> cases h2 : lkB W H op c 2 <;> cases h3 : lkB W H op c 3 <;> simp [h0, h1, h2, h3]
theorem lkF_le (W H : Nat) (op : Nat → Nat) (c s : Nat) : lkF W H op c s ≤ 4 := by
  rw [lkF]
  exact Nat.le_trans (List.length_filter_le _ _) (by simp)
/-- the sum over the cells that a set has -/
def sumW (f : Nat → Nat) (S : Nat → Bool) : Nat → Nat
  | 0 => 0
  | n + 1 => sumW f S n + if S n then f n else 0
def upd (S : Nat → Bool) (c : Nat) : Nat → Bool := fun x => if x = c then true else S x
theorem upd_self (S : Nat → Bool) (c : Nat) : upd S c c = true := by simp [upd]
theorem upd_other {S : Nat → Bool} {c x : Nat} (h : x ≠ c) : upd S c x = S x := by simp [upd, h]
theorem sumW_upd (f : Nat → Nat) (S : Nat → Bool) (c n : Nat) (hS : S c = false) : sumW f (upd S c) n = sumW f S n + if c < n then f c else 0 := by
  induction n with
  | zero => rfl
  | succ n ih =>
    simp only [sumW]
    rw [ih]
    by_cases h : n = c
    · subst h
      rw [upd_self, hS]
      simp
    · rw [upd_other h]
      by_cases h2 : c < n
      · have h3 : c < n + 1 := by omega
        rw [if_pos h2, if_pos h3]; omega
      · have h3 : ¬ c < n + 1 := by omega
        rw [if_neg h2, if_neg h3]; omega
/-- how many cells are dry -/
def dryN (S : Nat → Bool) : Nat := sumW (fun _ => 1) (fun x => !S x) 9
theorem sumW_mono (f : Nat → Nat) (S T : Nat → Bool) (n : Nat) (h : ∀ x, S x = true → T x = true) : sumW f S n ≤ sumW f T n := by
  induction n with
  | zero => exact Nat.le_refl _
  | succ n ih =>
    simp only [sumW]
    cases hS : S n
    · rw [if_neg (by decide)]; omega
    · rw [h n hS]; omega
theorem dry_mono {S T : Nat → Bool} (h : ∀ x, S x = true → T x = true) : dryN T ≤ dryN S := by
  refine sumW_mono _ _ _ 9 fun x hx => ?_
  cases hS : S x
  · rfl
  · have e := h x hS
    simp [e] at hx
theorem dry_upd {S : Nat → Bool} {c : Nat} (hc : c < 9) (hS : S c = false) : dryN (upd S c) + 1 = dryN S := by
  have e : (fun x => !S x) = upd (fun x => !upd S c x) c := by
    funext x
    by_cases h : x = c
    · subst h; rw [upd_self, hS]; rfl
    · rw [upd_other h, upd_other h]
  have h2 := sumW_upd (fun _ => 1) (fun x => !upd S c x) c 9 (by simp [upd_self])
  rw [← e, if_pos hc] at h2
  exact h2.symm
theorem dry_le (S : Nat → Bool) : dryN S ≤ 9 := by
  have := sumW_mono (fun _ => 1) (fun x => !S x) (fun _ => true) 9 (fun _ _ => rfl)
  exact this
/-- water comes from one cell to another one -/
inductive Rch (W H : Nat) (op : Nat → Nat) : Nat → Nat → Prop
  | refl (c : Nat) : Rch W H op c c
  | head {c t y x : Nat} : t ≤ 3 → adjO W H op c t = some y → Rch W H op y x → Rch W H op c x
/-- what spread does -/
structure Spr (W H : Nat) (op : Nat → Nat) (S : Nat → Bool) (k c : Nat) (T : Nat → Bool) (m : Nat) : Prop where
  mono : ∀ x, S x = true → T x = true
  here : T c = true
  only : ∀ x, T x = true → S x = true ∨ Rch W H op c x
  shut : ∀ x t y, T x = true → S x = false → t ≤ 3 → adjO W H op x t = some y → T y = true
  sum : m + sumW (fun x => lkF W H op x 0) S 9 = k + sumW (fun x => lkF W H op x 0) T 9
  room : m + 4 * dryN T ≤ k + 4 * dryN S
/-- spread, some sides on -/
structure SprS (W H : Nat) (op : Nat → Nat) (S : Nat → Bool) (k c : Nat) (s : Nat) (T : Nat → Bool) (m : Nat) : Prop where
  mono : ∀ x, S x = true → T x = true
  here : T c = true
  only : ∀ x, T x = true → S x = true ∨ Rch W H op c x
  shut : ∀ x t y, T x = true → S x = false → x ≠ c → t ≤ 3 → adjO W H op x t = some y → T y = true
  so : ∀ t y, t < s → t ≤ 3 → adjO W H op c t = some y → T y = true
  sum : m + sumW (fun x => lkF W H op x 0) S 9 + lkF W H op c s = k + sumW (fun x => lkF W H op x 0) T 9
  room : m + 4 * dryN T + (4 - s) ≤ k + 4 * dryN S
section
variable {W H : Nat} {op : Nat → Nat} {S T : Nat → Bool} {k c s m : Nat}
theorem SprS.start (hc : c < 9) (hS : S c = false) : SprS W H op S k c 0 (upd S c) k where
  mono x h := by
    by_cases e : x = c
    · rw [e, upd_self]
    · rw [upd_other e, h]
  here := upd_self S c
  only x h := by
    by_cases e : x = c
    · rw [e]; exact .inr (.refl c)
    · rw [upd_other e] at h; exact .inl h
  shut x t y h1 h2 h3 := by rw [upd_other h3, h2] at h1; cases h1
  so t y h := by omega
  sum := by rw [sumW_upd _ S c 9 hS, if_pos hc]; omega
  room := by have := dry_upd hc hS; omega
theorem SprS.done (h : SprS W H op S k c 4 T m) : Spr W H op S k c T m where
  mono := h.mono
  here := h.here
  only := h.only
  shut x t y h1 h2 h3 h4 := by
    by_cases e : x = c
    · subst e; exact h.so t y (by omega) h3 h4
    · exact h.shut x t y h1 h2 e h3 h4
  sum := by have := h.sum; rw [lkF_end] at this; omega
  room := by have := h.room; omega
theorem adj_shut (h : (op c).testBit s = false) : adjO W H op c s = none := by rw [adjO, h]; rfl
theorem SprS.skip (h : SprS W H op S k c s T m) (hs : s ≤ 3) (h1 : (op c).testBit s = false) : SprS W H op S k c (s + 1) T m where
  mono := h.mono
  here := h.here
  only := h.only
  shut := h.shut
  so t y h2 h3 h4 := by
    by_cases e : t = s
    · rw [e, adj_shut h1] at h4; cases h4
    · exact h.so t y (by omega) h3 h4
  sum := by have := h.sum; rw [lkF_step W H op c s hs, lkB, h1] at this; simp at this; omega
  room := by have := h.room; omega
theorem SprS.leak (h : SprS W H op S k c s T m) (hs : s ≤ 3) (h1 : (op c).testBit s = true) (h2 : adjO W H op c s = none) : SprS W H op S k c (s + 1) T (m + 1) where
  mono := h.mono
  here := h.here
  only := h.only
  shut := h.shut
  so t y h3 h4 h5 := by
    by_cases e : t = s
    · rw [e, h2] at h5; cases h5
    · exact h.so t y (by omega) h4 h5
  sum := by have := h.sum; rw [lkF_step W H op c s hs, lkB, h1, h2] at this; simp at this; omega
  room := by have := h.room; omega
theorem SprS.flow {y : Nat} {U : Nat → Bool} {n : Nat} (h : SprS W H op S k c s T m) (hs : s ≤ 3) (h2 : adjO W H op c s = some y) (g : Spr W H op T m y U n) : SprS W H op S k c (s + 1) U n where
  mono x hx := g.mono x (h.mono x hx)
  here := g.mono c h.here
  only x hx := by
    rcases g.only x hx with h3 | h3
    · exact h.only x h3
    · exact .inr (.head hs h2 h3)
  shut x t z h3 h4 h5 h6 h7 := by
    cases e : T x
    · exact g.shut x t z h3 e h6 h7
    · exact g.mono z (h.shut x t z e h4 h5 h6 h7)
  so t z h3 h4 h5 := by
    by_cases e : t = s
    · rw [e, h2] at h5; injection h5 with h5; rw [← h5]; exact g.here
    · exact g.mono z (h.so t z (by omega) h4 h5)
  sum := by
    have a := h.sum
    have b := g.sum
    rw [lkF_step W H op c s hs, lkB, h2] at a
    simp at a
    omega
  room := by
    have a := h.room
    have b := g.room
    omega
theorem Spr.stay (hS : S c = true) : Spr W H op S k c S k where
  mono _ h := h
  here := hS
  only _ h := .inl h
  shut x t y h1 h2 := by rw [h1] at h2; cases h2
  sum := rfl
  room := Nat.le_refl _
end
end Go.Proofs.Ytfjincdlenneaaa
