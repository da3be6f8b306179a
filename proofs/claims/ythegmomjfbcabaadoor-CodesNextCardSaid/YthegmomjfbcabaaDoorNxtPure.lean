/-
  PURE FACTS for Next: how many of a list have the answer that most of them have; the best guess.
-/
import Derived.Test.YthegmomjfbcabaaDoorExPure
namespace Go.Proofs.YthegmomjfbcabaaDoor
open Go.RowKit
variable {α : Type}
/-- how many of a list have the number q -/
def cntF (f : α → Nat) (q : Nat) (xs : List α) : Nat := (xs.filter (fun c => f c == q)).length
theorem cntF_nil (f : α → Nat) (q : Nat) : cntF f q [] = 0 := rfl
theorem cntF_snoc (f : α → Nat) (q : Nat) (xs : List α) (x : α) : cntF f q (xs ++ [x]) = cntF f q xs + if f x = q then 1 else 0 := by
  rw [cntF, List.filter_append, List.length_append, ← cntF]
  by_cases h : f x = q <;> simp [h]
theorem cntF_le (f : α → Nat) (q : Nat) (xs : List α) : cntF f q xs ≤ xs.length := List.length_filter_le _ _
def IsMost (f : α → Nat) (xs : List α) (m : Nat) : Prop := (∀ q, cntF f q xs ≤ m) ∧ (m = 0 ∨ ∃ c, c ∈ xs ∧ m = cntF f (f c) xs)
theorem isMost_unique {f : α → Nat} {xs : List α} {m n : Nat} (h : IsMost f xs m) (k : IsMost f xs n) : m = n := by
  have h1 : m ≤ n := by
    rcases h.2 with h0 | ⟨c, _, e⟩
    · omega
    · rw [e]; exact k.1 _
  have h2 : n ≤ m := by
    rcases k.2 with h0 | ⟨c, _, e⟩
    · omega
    · rw [e]; exact h.1 _
  omega
theorem isMost_nil (f : α → Nat) : IsMost f [] 0 := ⟨fun _ => Nat.le_refl _, .inl rfl⟩
theorem isMost_snoc {f : α → Nat} {xs : List α} {m : Nat} (h : IsMost f xs m) (x : α) : IsMost f (xs ++ [x]) (max m (cntF f (f x) (xs ++ [x]))) := by
  have hx : cntF f (f x) (xs ++ [x]) = cntF f (f x) xs + 1 := by rw [cntF_snoc, if_pos rfl]
  refine ⟨fun q => ?_, .inr ?_⟩
  · by_cases e : f x = q
    · subst e; exact Nat.le_max_right _ _
    · rw [cntF_snoc, if_neg e]
      exact Nat.le_trans (h.1 q) (Nat.le_max_left _ _)
  · rcases Nat.lt_or_ge (cntF f (f x) (xs ++ [x])) m with h1 | h1
    · rw [Nat.max_eq_left (Nat.le_of_lt h1)]
      rcases h.2 with h0 | ⟨c, hc, e⟩
      · omega
      · refine ⟨c, List.mem_append_left _ hc, ?_⟩
        by_cases e2 : f x = f c
        · rw [e2] at h1
          rw [cntF_snoc, if_pos e2] at h1
          omega
        · rw [cntF_snoc, if_neg e2]; exact e
    · rw [Nat.max_eq_right h1]
      exact ⟨x, by simp, rfl⟩
/-- what most of them have in common, so many there are -/
def mst (f : α → Nat) (xs : List α) : Nat := (xs.map (fun c => cntF f (f c) xs)).foldl max 0
theorem foldl_max_ge : ∀ (l : List Nat) (b : Nat), b ≤ l.foldl max b ∧ ∀ a, a ∈ l → a ≤ l.foldl max b
  | [], b => ⟨Nat.le_refl _, fun a h => by cases h⟩
  | x :: xs, b => by
    obtain ⟨h1, h2⟩ := foldl_max_ge xs (max b x)
    refine ⟨Nat.le_trans (Nat.le_max_left _ _) h1, fun a h => ?_⟩
    rcases List.mem_cons.1 h with rfl | h
    · exact Nat.le_trans (Nat.le_max_right _ _) h1
    · exact h2 a h
theorem foldl_max_mem : ∀ (l : List Nat) (b : Nat), l.foldl max b = b ∨ l.foldl max b ∈ l
  | [], b => .inl rfl
  | x :: xs, b => by
    rw [List.foldl_cons]
    rcases foldl_max_mem xs (max b x) with h | h
    · rw [h]
      rcases Nat.le_total b x with h1 | h1
      · rw [Nat.max_eq_right h1]; exact .inr (List.mem_cons_self ..)
      · rw [Nat.max_eq_left h1]; exact .inl rfl
    · exact .inr (List.mem_cons_of_mem _ h)
theorem isMost_mst (f : α → Nat) (xs : List α) : IsMost f xs (mst f xs) := by
  refine ⟨fun q => ?_, ?_⟩
  · rcases Nat.eq_zero_or_pos (cntF f q xs) with h | h
    · omega
    · obtain ⟨c, hc⟩ := List.exists_mem_of_length_pos h
      obtain ⟨h1, h2⟩ := List.mem_filter.1 hc
      have e : f c = q := by simpa using h2
      refine (foldl_max_ge _ 0).2 _ (List.mem_map.2 ⟨c, h1, ?_⟩)
      rw [e]
  · rcases foldl_max_mem (xs.map (fun c => cntF f (f c) xs)) 0 with h | h
    · exact .inl h
    · obtain ⟨c, hc, e⟩ := List.mem_map.1 h
      exact .inr ⟨c, hc, e.symm⟩
theorem mst_of {f : α → Nat} {xs : List α} {m : Nat} (h : IsMost f xs m) : m = mst f xs := isMost_unique h (isMost_mst f xs)
theorem mst_le (f : α → Nat) (xs : List α) : mst f xs ≤ xs.length := by
  rcases (isMost_mst f xs).2 with h | ⟨c, _, e⟩
  · omega
  · rw [e]; exact cntF_le _ _ _
/-- .. where the first k have been looked at -/
def mstT (f : α → Nat) (xs : List α) (k : Nat) : Nat := ((xs.take k).map (fun c => cntF f (f c) xs)).foldl max 0
theorem mstT_succ (f : α → Nat) (xs : List α) {k : Nat} (hk : k < xs.length) : mstT f xs (k + 1) = max (mstT f xs k) (cntF f (f xs[k]) xs) := by
  rw [mstT, List.take_succ_eq_append_getElem hk, List.map_append, List.foldl_append, ← mstT]
  rfl
theorem mstT_all (f : α → Nat) (xs : List α) : mstT f xs xs.length = mst f xs := by rw [mstT, List.take_length]; rfl
theorem mstT_le (f : α → Nat) (xs : List α) (k : Nat) : mstT f xs k ≤ xs.length := by
  rcases foldl_max_mem ((xs.take k).map (fun c => cntF f (f c) xs)) 0 with h | h
  · rw [mstT, h]; exact Nat.zero_le _
  · obtain ⟨c, _, e⟩ := List.mem_map.1 h
    rw [mstT, ← e]; exact cntF_le _ _ _
/-- the answer of a code to a guess, as one number -/
def anN (W : Nat) (g c : List Int) : Nat := (rgt c g W).toNat * 5 + (com c g W 10 - rgt c g W).toNat
theorem rgt_pos (x y : List Int) (n : Nat) : 0 ≤ rgt x y n := by
  induction n with
  | zero => exact Int.le_refl _
  | succ k ih => simp only [rgt]; split <;> omega
theorem an_parts {W : Nat} (hW4 : W ≤ 4) {g c : List Int} (hc : Sym c W) : ∃ r m : Nat, rgt c g W = r ∧ com c g W 10 - rgt c g W = m ∧ r + m ≤ 4 ∧ anN W g c = r * 5 + m := by
  have h1 := rgt_le_com c g W hc
  have h2 := com_le c g W hc
  have h3 := rgt_pos c g W
  refine ⟨(rgt c g W).toNat, (com c g W 10 - rgt c g W).toNat, by omega, by omega, by omega, rfl⟩
theorem an_same {W : Nat} (hW4 : W ≤ 4) {g c d : List Int} (hc : Sym c W) (hd : Sym d W) : (decide (rgt d g W = rgt c g W) && decide (com d g W 10 - rgt d g W = com c g W 10 - rgt c g W)) = decide (anN W g d = anN W g c) := by
  obtain ⟨r, m, e1, e2, h1, e3⟩ := an_parts hW4 (g := g) hc
  obtain ⟨r', m', e1', e2', h1', e3'⟩ := an_parts hW4 (g := g) hd
  rw [e2, e2', e1, e1', e3, e3', Bool.eq_iff_iff, Bool.and_eq_true, decide_eq_true_eq, decide_eq_true_eq, decide_eq_true_eq]
  omega
/-- the place of the best of v 0 .. v i, the first of them -/
def bst (v : Nat → Nat) : Nat → Nat
  | 0 => 0
  | i + 1 => if v (i + 1) < v (bst v i) then i + 1 else bst v i
theorem bst_le (v : Nat → Nat) : ∀ i, bst v i ≤ i
  | 0 => Nat.le_refl _
  | i + 1 => by
    rw [bst]
    split
    · exact Nat.le_refl _
    · have := bst_le v i; omega
theorem bst_least (v : Nat → Nat) : ∀ i j, j ≤ i → v (bst v i) ≤ v j
  | 0, j, h => by obtain rfl : j = 0 := by omega
                  exact Nat.le_refl _
  | i + 1, j, h => by
    rw [bst]
    rcases Nat.lt_or_ge j (i + 1) with h1 | h1
    · have := bst_least v i j (by omega)
      split <;> omega
    · obtain rfl : j = i + 1 := by omega
      split <;> omega
/-- what is left at the worst behind the guess number i -/
def lft (W : Nat) (L : List (List Int)) (i : Nat) : Nat := mst (anN W (L.getD i [])) L
theorem getD_at {L : List (List Int)} {i : Nat} (h : i < L.length) : L.getD i [] = L[i] := by simp [h]
def nxE (W S : Int) (cs : List Cl) : Int := if cntE W S cs = 0 then (if (readings W.toNat S.toNat cs).length = 0 then 3 else if 200 < (readings W.toNat S.toNat cs).length then 2 else 0) else cntE W S cs
def nxI (W S : Int) (cs : List Cl) : Nat := bst (lft W.toNat (readings W.toNat S.toNat cs)) ((readings W.toNat S.toNat cs).length - 1)
def nxG (W S : Int) (cs : List Cl) : List Int := if nxE W S cs = 0 then (readings W.toNat S.toNat cs).getD (nxI W S cs) [] else []
def nxN (W S : Int) (cs : List Cl) : Int := if nxE W S cs = 0 then (lft W.toNat (readings W.toNat S.toNat cs) (nxI W S cs) : Nat) else 0
end Go.Proofs.YthegmomjfbcabaaDoor
