/-
  PURE FACTS for layer 3, balances: all weighings in order, the first of the lightest. Nothing of the program.
-/
import Derived.Test.YtglkjiimmlobbaaPzBase
namespace Go.Proofs.Ytglkjiimmlobbaa
/-- the place of the least of v 0 .. v i, the first of them -/
def bst (v : Nat → Nat) : Nat → Nat
  | 0 => 0
  | i + 1 => if v (i + 1) < v (bst v i) then i + 1 else bst v i
theorem bst_le (v : Nat → Nat) : ∀ i, bst v i ≤ i
  | 0 => Nat.le_refl _
  | i + 1 => by
    rw [bst]
    split
    · exact Nat.le_refl _
    · have := bst_le v i; omega
theorem bst_least (v : Nat → Nat) : ∀ i j, j ≤ i → v (bst v i) ≤ v j
  | 0, j, h => by obtain rfl : j = 0 := by omega
                  exact Nat.le_refl _
  | i + 1, j, h => by
    rw [bst]
    rcases Nat.lt_or_ge j (i + 1) with h1 | h1
    · have := bst_least v i j (by omega)
      split <;> omega
    · obtain rfl : j = i + 1 := by omega
      split <;> omega
theorem bst_first (v : Nat → Nat) : ∀ i j, j < bst v i → v (bst v i) < v j
  | 0, j, h => by rw [bst] at h; omega
  | i + 1, j, h => by
    rw [bst] at h ⊢
    by_cases hq : v (i + 1) < v (bst v i)
    · rw [if_pos hq] at h ⊢
      have := bst_least v i j (by omega)
      omega
    · rw [if_neg hq] at h ⊢
      exact bst_first v i j h
/-- a weighing by its number: three sides, the first weight's first -/
def sidesOf (w n : Nat) : List Int := (dig 3 w n).map (fun d => d - 1)
theorem sidesOf_length (w n : Nat) : (sidesOf w n).length = w := by rw [sidesOf, List.length_map, dig_length]
theorem sidesOf_at {w n i : Nat} (h : i < w) : nth (sidesOf w n) i = nth (dig 3 w n) i - 1 := by
  rw [nth_lt (by rw [sidesOf_length]; exact h), nth_lt (by rw [dig_length]; exact h)]
  simp [sidesOf]
theorem sidesOf_bounds {w n i : Nat} (h : i < w) : -1 ≤ nth (sidesOf w n) i ∧ nth (sidesOf w n) i ≤ 1 := by
  have := dig_bounds (s := 3) (by decide) w n (nth (dig 3 w n) i) (by rw [nth_lt (by rw [dig_length]; exact h)]; exact List.getElem_mem _)
  rw [sidesOf_at h]
  omega
theorem sidesOf_surj {w : Nat} {l : List Int} (hl : l.length = w) (h : ∀ d ∈ l, -1 ≤ d ∧ d ≤ 1) : ∃ n, n < 3 ^ w ∧ sidesOf w n = l := by
  obtain ⟨n, h1, h2⟩ := dig_surj (s := 3) w (l.map (fun d => d + 1)) (by rw [List.length_map, hl]) (fun d hd => by
    obtain ⟨x, hx, rfl⟩ := List.mem_map.1 hd
    have := h x hx
    constructor <;> omega)
  refine ⟨n, h1, ?_⟩
  rw [sidesOf, h2, List.map_map]
  conv => rhs; rw [← List.map_id l]
  exact List.map_congr_left (fun x _ => by simp)
/-- the sum of what k weights weigh, each on its side -/
def tipT (ws ss : List Int) : Nat → Int
  | 0 => 0
  | k + 1 => tipT ws ss k + nth ss k * nth ws k
def tipL (ws ss : List Int) (load : Int) : Int := -load + tipT ws ss ws.length
def usedL (ss : List Int) : Nat := (ss.filter (fun s => s != 0)).length
def usedT (ss : List Int) (k : Nat) : Nat := usedL (ss.take k)
theorem usedT_succ {ss : List Int} {k : Nat} (h : k < ss.length) : usedT ss (k + 1) = usedT ss k + if ss[k] = 0 then 0 else 1 := by
  rw [usedT, usedT, usedL, usedL, List.take_succ_eq_append_getElem h, List.filter_append, List.length_append]
  by_cases e : ss[k] = 0 <;> simp [e]
theorem usedT_all (ss : List Int) : usedT ss ss.length = usedL ss := by rw [usedT, List.take_length]
/-- the weighings, in order -/
def wgs (ws : List Int) (load : Int) : List (List Int) := ((List.range (3 ^ ws.length)).map (sidesOf ws.length)).filter (fun s => tipL ws s load == 0)
theorem wgs_mem {ws : List Int} {load : Int} {ss : List Int} : ss ∈ wgs ws load ↔ (∃ n, n < 3 ^ ws.length ∧ sidesOf ws.length n = ss) ∧ tipL ws ss load = 0 := by
  rw [wgs, List.mem_filter, List.mem_map]
  constructor
  · rintro ⟨⟨n, h1, h2⟩, h3⟩
    exact ⟨⟨n, List.mem_range.1 h1, h2⟩, by simpa using h3⟩
  · rintro ⟨⟨n, h1, h2⟩, h3⟩
    exact ⟨⟨n, List.mem_range.2 h1, h2⟩, by simpa using h3⟩
theorem wgs_len (ws : List Int) (load : Int) : (wgs ws load).length ≤ 3 ^ ws.length := by
  refine Nat.le_trans (List.length_filter_le _ _) ?_
  simp
/-- which of a list is the first of the cheapest -/
def cheapAt (cost : List Int → Nat) (xs : List (List Int)) (k : Nat) : List Int := xs.getD (bst (fun i => cost (xs.getD i [])) k) []
def cheap (cost : List Int → Nat) (xs : List (List Int)) : List Int := cheapAt cost xs (xs.length - 1)
theorem cheap_mem {cost : List Int → Nat} {xs : List (List Int)} (h : 0 < xs.length) : cheap cost xs ∈ xs := by
  have hb : bst (fun i => cost (xs.getD i [])) (xs.length - 1) < xs.length := by
    have := bst_le (fun i => cost (xs.getD i [])) (xs.length - 1)
    omega
  rw [cheap, cheapAt, List.getD_eq_getElem?_getD, List.getElem?_eq_getElem hb]
  exact List.getElem_mem hb
theorem cheap_least {cost : List Int → Nat} {xs : List (List Int)} {x : List Int} (h : x ∈ xs) : cost (cheap cost xs) ≤ cost x := by
  obtain ⟨i, hi, rfl⟩ := List.getElem_of_mem h
  have := bst_least (fun i => cost (xs.getD i [])) (xs.length - 1) i (by omega)
  simp only [List.getD_eq_getElem?_getD, List.getElem?_eq_getElem hi] at this
  rw [cheap, cheapAt, List.getD_eq_getElem?_getD]
  exact this
/-- one more list -/
theorem cheapAt_succ (cost : List Int → Nat) (xs : List (List Int)) (k : Nat) : cheapAt cost xs (k + 1) = if cost (xs.getD (k + 1) []) < cost (cheapAt cost xs k) then xs.getD (k + 1) [] else cheapAt cost xs k := by
  have e : cheapAt cost xs k = xs.getD (bst (fun i => cost (xs.getD i [])) k) [] := rfl
  rw [e, cheapAt, bst]
  by_cases h : cost (xs.getD (k + 1) []) < cost (xs.getD (bst (fun i => cost (xs.getD i [])) k) [])
  · simp only [if_pos h]
  · simp only [if_neg h]
end Go.Proofs.Ytglkjiimmlobbaa
