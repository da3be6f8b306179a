/-
  Mathematics of the document's own flows: steps over all cells until no more become wet.
-/
import Derived.Test.YtglkjiimmlobbaaPzRPip
namespace Go.Proofs.Ytglkjiimmlobbaa
def Shut (W H : Nat) (op : Nat → Nat) (S : Nat → Bool) : Prop := ∀ x t y, S x = true → t ≤ 3 → adjO W H op x t = some y → S y = true
theorem Rch.tail {W H : Nat} {op : Nat → Nat} {a b y t : Nat} (h : Rch W H op a b) (ht : t ≤ 3) (e : adjO W H op b t = some y) : Rch W H op a y := by
  induction h with
  | refl c => exact .head ht e (.refl y)
  | head h1 h2 _ ih => exact .head h1 h2 (ih e)
/-- inside a step: before cell c, side s -/
structure Pas (W H : Nat) (op : Nat → Nat) (fr : Nat) (S0 : Nat → Bool) (c s : Nat) (T : Nat → Bool) (m : Nat) : Prop where
  mono : ∀ x, S0 x = true → T x = true
  here : T fr = true
  only : ∀ x, T x = true → Rch W H op fr x
  old : ∀ x t y, x < c → S0 x = true → t ≤ 3 → adjO W H op x t = some y → T y = true
  so : ∀ t y, t < s → S0 c = true → t ≤ 3 → adjO W H op c t = some y → T y = true
  on : 0 < s → T c = true
  shut : Shut W H op S0 → (∀ x, T x = S0 x) ∧ m + (if S0 c then lkF W H op c s else 0) = sumW (fun x => lkF W H op x 0) S0 (c + 1)
  room : m ≤ 4 * c + s
section
variable {W H : Nat} {op : Nat → Nat} {fr c s m : Nat} {S0 T : Nat → Bool}
theorem Pas.start (h1 : S0 fr = true) (h2 : ∀ x, S0 x = true → Rch W H op fr x) : Pas W H op fr S0 0 0 S0 0 where
  mono _ h := h
  here := h1
  only := h2
  old x t y h := by omega
  so t y h := by omega
  on h := by omega
  shut _ := ⟨fun _ => rfl, by simp [sumW]⟩
  room := Nat.zero_le _
/-- a cell that is dry, or whose sides are done -/
theorem Pas.next (h : Pas W H op fr S0 c s T m) (hs : s = 4 ∨ s = 0 ∧ T c = false) : Pas W H op fr S0 (c + 1) 0 T m where
  mono := h.mono
  here := h.here
  only := h.only
  old x t y h1 h2 h3 h4 := by
    by_cases e : x = c
    · subst e
      rcases hs with rfl | ⟨_, hf⟩
      · exact h.so t y (by omega) h2 h3 h4
      · rw [h.mono x h2] at hf; cases hf
    · exact h.old x t y (by omega) h2 h3 h4
  so t y h1 := by omega
  on h1 := by omega
  shut hS := by
    obtain ⟨h1, h2⟩ := h.shut hS
    refine ⟨h1, ?_⟩
    have e : (if S0 c then lkF W H op c s else 0) = 0 := by
      rcases hs with rfl | ⟨_, hf⟩
      · rw [lkF_end]; simp
      · rw [← h1 c, hf]; rfl
    rw [e] at h2
    show m + (if S0 (c + 1) = true then lkF W H op (c + 1) 0 else 0) = sumW (fun x => lkF W H op x 0) S0 (c + 1) + (if S0 (c + 1) = true then lkF W H op (c + 1) 0 else 0)
    omega
  room := by
    have := h.room
    rcases hs with rfl | ⟨rfl, _⟩ <;> omega
theorem Pas.skip (h : Pas W H op fr S0 c s T m) (hs : s ≤ 3) (hc : T c = true) (h1 : (op c).testBit s = false) : Pas W H op fr S0 c (s + 1) T m where
  mono := h.mono
  here := h.here
  only := h.only
  old := h.old
  so t y h2 h3 h4 h5 := by
    by_cases e : t = s
    · rw [e, adj_shut h1] at h5; cases h5
    · exact h.so t y (by omega) h3 h4 h5
  on _ := hc
  shut hS := by
    obtain ⟨h2, h3⟩ := h.shut hS
    refine ⟨h2, ?_⟩
    rw [lkF_step W H op c s hs, lkB, h1] at h3
    simpa using h3
  room := by have := h.room; omega
theorem Pas.leak (h : Pas W H op fr S0 c s T m) (hs : s ≤ 3) (hc : T c = true) (h1 : (op c).testBit s = true) (h2 : adjO W H op c s = none) : Pas W H op fr S0 c (s + 1) T (m + 1) where
  mono := h.mono
  here := h.here
  only := h.only
  old := h.old
  so t y h3 h4 h5 h6 := by
    by_cases e : t = s
    · rw [e, h2] at h6; cases h6
    · exact h.so t y (by omega) h4 h5 h6
  on _ := hc
  shut hS := by
    obtain ⟨h3, h4⟩ := h.shut hS
    refine ⟨h3, ?_⟩
    have hc0 : S0 c = true := by rw [← h3 c, hc]
    rw [lkF_step W H op c s hs, lkB, h1, h2, hc0] at h4
    rw [hc0]
    simp at h4 ⊢
    omega
  room := by have := h.room; omega
theorem Pas.flow {y : Nat} (h : Pas W H op fr S0 c s T m) (hs : s ≤ 3) (hc : T c = true) (h2 : adjO W H op c s = some y) : Pas W H op fr S0 c (s + 1) (upd T y) m where
  mono x hx := by
    by_cases e : x = y
    · rw [e, upd_self]
    · rw [upd_other e]; exact h.mono x hx
  here := by
    by_cases e : fr = y
    · rw [e, upd_self]
    · rw [upd_other e]; exact h.here
  only x hx := by
    by_cases e : x = y
    · rw [e]; exact (h.only c hc).tail hs h2
    · rw [upd_other e] at hx; exact h.only x hx
  old x t z h3 h4 h5 h6 := by
    by_cases e : z = y
    · rw [e, upd_self]
    · rw [upd_other e]; exact h.old x t z h3 h4 h5 h6
  so t z h3 h4 h5 h6 := by
    by_cases e : z = y
    · rw [e, upd_self]
    · rw [upd_other e]
      by_cases e2 : t = s
      · rw [e2, h2] at h6; injection h6 with h6; exact absurd h6.symm e
      · exact h.so t z (by omega) h4 h5 h6
  on _ := by
    by_cases e : c = y
    · rw [← e, upd_self]
    · rw [upd_other e]; exact hc
  shut hS := by
    obtain ⟨h3, h4⟩ := h.shut hS
    have hc0 : S0 c = true := by rw [← h3 c, hc]
    have hy0 := hS c s y hc0 hs h2
    refine ⟨fun x => ?_, ?_⟩
    · by_cases e : x = y
      · rw [e, upd_self, hy0]
      · rw [upd_other e]; exact h3 x
    · rw [lkF_step W H op c s hs, lkB, h2] at h4
      simpa using h4
  room := by have := h.room; omega
end
/-- between the steps -/
structure Stp (W H : Nat) (op : Nat → Nat) (fr n : Nat) (S : Nat → Bool) (m : Nat) : Prop where
  here : S fr = true
  only : ∀ x, S x = true → Rch W H op fr x
  more : Shut W H op S ∨ n + 1 ≤ sumW (fun _ => 1) S (W * H)
  last : n = W * H → Shut W H op S ∧ m = sumW (fun x => lkF W H op x 0) S (W * H)
theorem sumW_full (S : Nat → Bool) (n : Nat) (h : n ≤ sumW (fun _ => 1) S n) : ∀ x, x < n → S x = true := by
  induction n with
  | zero => intro x hx; omega
  | succ n ih =>
    have hle : sumW (fun _ => 1) S n ≤ n := by
      clear ih h
      induction n with
      | zero => exact Nat.le_refl _
      | succ n ih => simp only [sumW]; split <;> omega
    simp only [sumW] at h
    intro x hx
    cases hS : S n
    · rw [hS] at h; simp at h; omega
    · rw [hS] at h
      simp at h
      by_cases e : x = n
      · rw [e, hS]
      · exact ih h x (by omega)
theorem sumW_more (S T : Nat → Bool) (n x : Nat) (hm : ∀ x, S x = true → T x = true) (hx : x < n) (h1 : T x = true) (h2 : S x = false) : sumW (fun _ => 1) S n + 1 ≤ sumW (fun _ => 1) T n := by
  have h3 := sumW_upd (fun _ => 1) S x n h2
  rw [if_pos hx] at h3
  rw [← h3]
  refine sumW_mono _ _ _ n fun z hz => ?_
  by_cases e : z = x
  · rw [e, h1]
  · rw [upd_other e] at hz; exact hm z hz
theorem Rch.lt {W H : Nat} {op : Nat → Nat} {a b : Nat} (h : Rch W H op a b) (ha : a < W * H) : b < W * H := by
  induction h with
  | refl c => exact ha
  | head _ h2 _ ih =>
    refine ih ?_
    rw [adjO] at h2
    split at h2
    · split at h2
      · rename_i k hk
        split at h2
        · injection h2 with h2; rw [← h2]; exact nxO_lt ha hk
        · cases h2
      · cases h2
    · cases h2
theorem Stp.step {W H : Nat} {op : Nat → Nat} {fr n m k : Nat} {S T : Nat → Bool} (h : Stp W H op fr n S k) (hfr : fr < W * H) (g : Pas W H op fr S (W * H) 0 T m) (hN : S (W * H) = false) : Stp W H op fr (n + 1) T m := by
  have hT : Shut W H op S → (∀ x, T x = S x) ∧ m = sumW (fun x => lkF W H op x 0) S (W * H) := fun hS => by
    obtain ⟨h1, h2⟩ := g.shut hS
    refine ⟨h1, ?_⟩
    rw [hN] at h2
    simp only [sumW, hN] at h2
    simpa using h2
  have hsh : Shut W H op S → Shut W H op T ∧ m = sumW (fun x => lkF W H op x 0) T (W * H) := fun hS => by
    obtain ⟨h1, h2⟩ := hT hS
    have e : T = S := funext h1
    rw [e]
    exact ⟨hS, h2⟩
  refine ⟨g.here, g.only, ?_, fun e => ?_⟩
  · by_cases hS : Shut W H op S
    · exact .inl (hsh hS).1
    · have hm := h.more.resolve_left hS
      by_cases he : ∀ x, T x = S x
      · refine absurd (fun x t y h1 h2 h3 => ?_) hS
        rw [← he y]
        exact g.old x t y ((h.only x h1).lt hfr) h1 h2 h3
      · refine .inr ?_
        obtain ⟨x, hx⟩ := Classical.not_forall.1 he
        have hTx : T x = true := by
          cases e : T x
          · cases e2 : S x
            · rw [e, e2] at hx; exact absurd rfl hx
            · rw [g.mono x e2] at e; cases e
          · rfl
        have hSx : S x = false := by
          cases e : S x
          · rfl
          · rw [hTx, e] at hx; exact absurd rfl hx
        have := sumW_more S T (W * H) x g.mono ((g.only x hTx).lt hfr) hTx hSx
        omega
  · refine hsh ?_
    rcases h.more with h1 | h1
    · exact h1
    · intro x t y h2 h3 h4
      exact sumW_full S (W * H) (by omega) y (((h.only x h2).tail h3 h4).lt hfr)
theorem Stp.start {W H : Nat} {op : Nat → Nat} {fr : Nat} (hfr : fr < W * H) : Stp W H op fr 0 (upd (fun _ => false) fr) 0 where
  here := upd_self _ _
  only x h := by
    by_cases e : x = fr
    · rw [e]; exact .refl fr
    · rw [upd_other e] at h; cases h
  more := .inr (by rw [sumW_upd _ _ _ _ rfl, if_pos hfr]; omega)
  last e := by omega
theorem sumW_none (f : Nat → Nat) (n : Nat) : sumW f (fun _ => false) n = 0 := by
  induction n with
  | zero => rfl
  | succ n ih => simp [sumW, ih]
theorem sumW_cut (f : Nat → Nat) (S : Nat → Bool) (n m : Nat) (h : n ≤ m) (hS : ∀ x, S x = true → x < n) : sumW f S m = sumW f S n := by
  induction m with
  | zero => have : n = 0 := by omega
            rw [this]
  | succ m ih =>
    by_cases e : n = m + 1
    · rw [e]
    · have : S m = false := by
        cases h2 : S m
        · rfl
        · have := hS m h2; omega
      simp only [sumW, this]
      rw [ih (by omega)]; simp
/-- both wet the same cells, and count the same leaks -/
theorem flows_same {W H : Nat} {op : Nat → Nat} {fr m k : Nat} {T U : Nat → Bool} (hN : W * H ≤ 9) (hfr : fr < W * H) (h : Spr W H op (fun _ => false) 0 fr T m) (g : Stp W H op fr (W * H) U k) : (∀ x, T x = U x) ∧ m = k := by
  have hT : ∀ x, T x = true → Rch W H op fr x := fun x hx => (h.only x hx).resolve_left (by simp)
  have closed : ∀ (S : Nat → Bool), Shut W H op S → ∀ a x, Rch W H op a x → S a = true → S x = true := by
    intro S hS a x hr
    induction hr with
    | refl c => exact id
    | head h1 h2 _ ih => exact fun ha => ih (hS _ _ _ ha h1 h2)
  have hTs : Shut W H op T := fun x t y h1 h2 h3 => h.shut x t y h1 rfl h2 h3
  have hU := g.last rfl
  have e : ∀ x, T x = U x := fun x => by
    cases h1 : T x
    · cases h2 : U x
      · rfl
      · rw [closed T hTs fr x (g.only x h2) h.here] at h1; cases h1
    · exact (closed U hU.1 fr x (hT x h1) g.here).symm
  refine ⟨e, ?_⟩
  have h1 := h.sum
  rw [sumW_none, sumW_cut _ T (W * H) 9 hN (fun x hx => (hT x hx).lt hfr), funext e] at h1
  have h2 := hU.2
  omega
end Go.Proofs.Ytglkjiimmlobbaa
