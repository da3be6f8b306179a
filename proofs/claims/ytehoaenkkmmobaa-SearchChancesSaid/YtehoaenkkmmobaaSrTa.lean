/-
  LAYER 6, PURE: a trail leads along edges; the distance of where it begins.
-/
import Derived.Test.YtehoaenkkmmobaaSrRd
namespace Go.Proofs.Ytehoaenkkmmobaa
open Go.RowKit Go.Shelf
/-- where k steps of a trail lead -/
def posP (E : Nat → List Nat) (L : List Nat) (k : Nat) : Nat := (L.take k).foldl (tgt E) 0
theorem posP_succ (E : Nat → List Nat) (L : List Nat) {k : Nat} (h : k < L.length) : posP E L (k + 1) = tgt E (posP E L k) L[k] := by
  rw [posP, posP, List.take_succ_eq_append_getElem h, List.foldl_append]; rfl
theorem posP_snoc (E : Nat → List Nat) (L : List Nat) (e : Nat) {k : Nat} (h : k ≤ L.length) : posP E (L ++ [e]) k = posP E L k := by
  rw [posP, posP, List.take_append_of_le_length h]
/-- what holds of a trail -/
structure TrOK (E : Nat → List Nat) (n : Nat) (d : Nat → Int) (s : PSt) : Prop where
  at_ : s.at_ = posP E s.trail s.trail.length
  ed : ∀ k (h : k < s.trail.length), s.trail[k] < (E (posP E s.trail k)).length ∧ d (posP E s.trail k) ≠ 0
  lt : ∀ k, k ≤ s.trail.length → posP E s.trail k < n
section
variable {E : Nat → List Nat} {n tu mo : Nat} {d : Nat → Int} {s : PSt}
theorem TrOK.start (h : 0 < n) : TrOK E n d iniP where
  at_ := rfl
  ed := fun k h => absurd h (Nat.not_lt_zero k)
  lt := fun k _ => by simp [posP, iniP]; exact h
theorem TrOK.step (h : TrOK E n d s) (hi : PInv E n tu mo s) (ht : ∀ p, p < n → ∀ j, j < (E p).length → tgt E p j < n) (hs : stay E d s.at_ = false) : TrOK E n d (stpP E n tu mo s) := by
  have hne : 0 < (E s.at_).length := by
    cases hq : E s.at_ with
    | nil => rw [stay, hq] at hs; simp at hs
    | cons a b => simp
  have hd : d s.at_ ≠ 0 := by
    intro e
    rw [stay, e] at hs
    simp at hs
  have he := (hi.nxt ht hne).1
  obtain ⟨e, hee⟩ : ∃ e, e = (nxtP E n tu s).1 := ⟨_, rfl⟩
  rw [← hee] at he
  have htr : (stpP E n tu mo s).trail = s.trail ++ [e] := by rw [hee]; rfl
  have hat : (stpP E n tu mo s).at_ = tgt E s.at_ e := by rw [hee]; rfl
  have hlen : (s.trail ++ [e]).length = s.trail.length + 1 := by simp
  have hlast : posP E (s.trail ++ [e]) (s.trail.length + 1) = tgt E s.at_ e := by
    rw [posP_succ E _ (k := s.trail.length) (by omega), posP_snoc E _ _ (Nat.le_refl _), ← h.at_]
    simp
  refine { at_ := ?_, ed := fun k hk => ?_, lt := fun k hk => ?_ }
  · rw [hat, htr, hlen, hlast]
  · simp only [htr] at hk ⊢
    rw [hlen] at hk
    rcases Nat.lt_or_ge k s.trail.length with h1 | h1
    · rw [List.getElem_append_left h1, posP_snoc E _ _ (by omega)]
      exact h.ed k h1
    · obtain rfl : k = s.trail.length := by omega
      rw [posP_snoc E _ _ (Nat.le_refl _), ← h.at_]
      simp only [List.getElem_append_right (Nat.le_refl _), Nat.sub_self, List.getElem_cons_zero]
      exact ⟨he, hd⟩
  · rw [htr] at hk ⊢
    rw [hlen] at hk
    rcases Nat.lt_or_ge k (s.trail.length + 1) with h1 | h1
    · rw [posP_snoc E _ _ (by omega)]
      exact h.lt k (by omega)
    · obtain rfl : k = s.trail.length + 1 := by omega
      rw [hlast]
      exact ht _ hi.at_ _ he
theorem run_ok (ht : ∀ p, p < n → ∀ j, j < (E p).length → tgt E p j < n) : ∀ f s, PInv E n tu mo s → TrOK E n d s →
    PInv E n tu mo (runS E n tu mo d f s) ∧ TrOK E n d (runS E n tu mo d f s) ∧ ((runS E n tu mo d f s).trail.length < s.trail.length + f → stay E d (runS E n tu mo d f s).at_ = true) := by
  intro f
  induction f with
  | zero => intro s h1 h2; exact ⟨h1, h2, fun h => absurd h (by simp [runS])⟩
  | succ f ih =>
    intro s h1 h2
    rw [runS]
    cases hs : stay E d s.at_ with
    | true => rw [if_pos rfl]; exact ⟨h1, h2, fun _ => hs⟩
    | false =>
      rw [if_neg (by simp)]
      have hne : 0 < (E s.at_).length := by
        cases hq : E s.at_ with
        | nil => rw [stay, hq] at hs; simp at hs
        | cons a b => simp
      obtain ⟨g1, g2, g3⟩ := ih (stpP E n tu mo s) (h1.step ht hne) (h2.step h1 ht hs)
      have e : (stpP E n tu mo s).trail.length = s.trail.length + 1 := by simp [stpP]
      exact ⟨g1, g2, fun h => g3 (by omega)⟩
end
/-- an edge leads at most one nearer -/
def Near (E : Nat → List Nat) (n : Nat) (d : Nat → Int) : Prop := ∀ p, p < n → ∀ j, j < (E p).length → 0 ≤ d (tgt E p j) → 0 ≤ d p ∧ d p ≤ d (tgt E p j) + 1
theorem near_trail {E : Nat → List Nat} {n : Nat} {d : Nat → Int} {s : PSt} (hn : Near E n d) (h : TrOK E n d s) (h0 : d s.at_ = 0) : ∀ k, k ≤ s.trail.length → 0 ≤ d (posP E s.trail (s.trail.length - k)) ∧ d (posP E s.trail (s.trail.length - k)) ≤ k := by
  intro k
  induction k with
  | zero => intro _; rw [Nat.sub_zero, ← h.at_, h0]; simp
  | succ k ih =>
    intro hk
    obtain ⟨h1, h2⟩ := ih (by omega)
    have hlt : s.trail.length - (k + 1) < s.trail.length := by omega
    have e : s.trail.length - k = s.trail.length - (k + 1) + 1 := by omega
    rw [e, posP_succ E _ hlt] at h1 h2
    have := hn _ (h.lt (s.trail.length - (k + 1)) (by omega)) _ (h.ed _ hlt).1 h1
    omega
theorem dbt_least {D : List Int} : ∀ (es : List Ed) (l : Int), -1 ≤ l → (∀ k, -1 ≤ nth D k) → (0 ≤ l → 0 ≤ es.foldl (dstep D) l ∧ es.foldl (dstep D) l ≤ l) ∧ ∀ e ∈ es, 0 ≤ nth D e.to.toNat → 0 ≤ es.foldl (dstep D) l ∧ es.foldl (dstep D) l ≤ nth D e.to.toNat := by
  intro es
  induction es with
  | nil => intro l h1 h2; exact ⟨fun h => ⟨h, Int.le_refl _⟩, fun e he => by cases he⟩
  | cons a t ih =>
    intro l h1 h2
    have hb := h2 a.to.toNat
    have hstep : -1 ≤ dstep D l a ∧ (0 ≤ l → 0 ≤ dstep D l a ∧ dstep D l a ≤ l) ∧ (0 ≤ nth D a.to.toNat → 0 ≤ dstep D l a ∧ dstep D l a ≤ nth D a.to.toNat) := by
      unfold dstep
      split
      · rename_i h
        simp only [Bool.and_eq_true, Bool.or_eq_true, bne_iff_ne, ne_eq, beq_iff_eq, decide_eq_true_eq] at h
        omega
      · rename_i h
        simp only [Bool.and_eq_true, Bool.or_eq_true, bne_iff_ne, ne_eq, beq_iff_eq, decide_eq_true_eq] at h
        omega
    obtain ⟨g1, g2⟩ := ih (dstep D l a) hstep.1 h2
    rw [List.foldl_cons]
    refine ⟨fun h => ?_, fun e he h => ?_⟩
    · have := hstep.2.1 h
      have := g1 this.1
      omega
    · rcases List.mem_cons.1 he with rfl | he
      · have := hstep.2.2 h
        have := g1 this.1
        omega
      · exact g2 e he h
theorem near_of {G : List (List Ed)} {D : List Int} (hv : Vld G D) (ho : okB G D = true) : Near (eOf G) G.length (dOf D) := by
  rw [okB, Bool.and_eq_true] at ho
  have hbd := inB_bnd ho.1 hv.many
  intro p hp j hj h0
  rw [List.all_eq_true] at ho
  have hd := ho.2 p (List.mem_range.2 (by rw [hv.len]; exact hp))
  rw [eOf_len hp] at hj
  have het := (eOf_tgt hv hp hj).1
  have hto : G[p][j].to.toNat = tgt (eOf G) p j := by rw [het]; rfl
  have h1 := (dbt_least (D := D) G[p] (-1) (Int.le_refl _) (fun k => (hbd k).1)).2 G[p][j] (List.getElem_mem hj) (by rw [hto]; exact h0)
  rw [hto] at h1
  simp only [okP, Bool.or_eq_true, beq_iff_eq] at hd
  rw [gAt_eq hp] at hd
  have e1 : dbt D G[p] G[p].length = G[p].foldl (dstep D) (-1) := by rw [dbt, List.take_length]
  unfold dOf at h0 ⊢
  rcases hd with hd | hd
  · rw [hd]; omega
  · rw [hd, dstE, e1, if_neg (by omega)]
    omega
end Go.Proofs.Ytehoaenkkmmobaa
