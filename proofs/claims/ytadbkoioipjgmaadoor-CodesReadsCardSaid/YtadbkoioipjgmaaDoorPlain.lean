/-
  PLAIN MATHEMATICS: what two codes have in common; digits. Nothing of the program.
-/
import Derived.RowKit3
namespace Go.Proofs.YtadbkoioipjgmaaDoor
/-- the element k, 0 beyond the end -/
def nth (xs : List Int) (k : Nat) : Int := xs[k]?.getD 0
theorem nth_lt {xs : List Int} {k : Nat} (h : k < xs.length) : nth xs k = xs[k] := by simp [nth, h]
/-- how many of the first k wheels show s -/
def cnt (c : List Int) (s : Int) : Nat → Int
  | 0 => 0
  | k + 1 => cnt c s k + if nth c k = s then 1 else 0
def rgt (c g : List Int) : Nat → Int
  | 0 => 0
  | k + 1 => rgt c g k + if nth c k = nth g k then 1 else 0
/-- symbols in common, of the first s symbols, at W wheels -/
def com (c g : List Int) (W : Nat) : Nat → Int
  | 0 => 0
  | s + 1 => com c g W s + min (cnt c s W) (cnt g s W)
def both (c g : List Int) (s : Int) : Nat → Int
  | 0 => 0
  | k + 1 => both c g s k + if nth c k = s ∧ nth g k = s then 1 else 0
def sum (f : Nat → Int) : Nat → Int
  | 0 => 0
  | n + 1 => sum f n + f n
theorem sum_le {f g : Nat → Int} (n : Nat) (h : ∀ i, i < n → f i ≤ g i) : sum f n ≤ sum g n := by
  induction n with
  | zero => exact Int.le_refl _
  | succ n ih => simp only [sum]; have := ih (fun i hi => h i (by omega)); have := h n (by omega); omega
theorem sum_congr {f g : Nat → Int} (n : Nat) (h : ∀ i, i < n → f i = g i) : sum f n = sum g n := by
  induction n with
  | zero => rfl
  | succ n ih => simp only [sum]; rw [ih (fun i hi => h i (by omega)), h n (by omega)]
theorem sum_add (f g : Nat → Int) (n : Nat) : sum (fun i => f i + g i) n = sum f n + sum g n := by
  induction n with
  | zero => rfl
  | succ n ih => simp only [sum]; rw [ih]; omega
theorem sum_zero (n : Nat) : sum (fun _ => 0) n = 0 := by
  induction n with
  | zero => rfl
  | succ n ih => simp only [sum]; omega
/-- one symbol counts once -/
theorem sum_ind (x : Int) (n : Nat) (h0 : 0 ≤ x) : sum (fun s => if x = (s : Int) then 1 else 0) n = if x < n then 1 else 0 := by
  induction n with
  | zero => simp [sum]; omega
  | succ n ih =>
    simp only [sum]; rw [ih]
    split <;> split <;> split <;> omega
theorem com_sum (c g : List Int) (W n : Nat) : com c g W n = sum (fun s => min (cnt c s W) (cnt g s W)) n := by
  induction n with
  | zero => rfl
  | succ n ih => simp only [com, sum]; rw [ih]
theorem cnt_bounds (c : List Int) (s : Int) (k : Nat) : 0 ≤ cnt c s k ∧ cnt c s k ≤ k := by
  induction k with
  | zero => simp [cnt]
  | succ k ih => simp only [cnt]; split <;> omega
theorem rgt_bounds (c g : List Int) (k : Nat) : 0 ≤ rgt c g k ∧ rgt c g k ≤ k := by
  induction k with
  | zero => simp [rgt]
  | succ k ih => simp only [rgt]; split <;> omega
theorem com_nonneg (c g : List Int) (W n : Nat) : 0 ≤ com c g W n := by
  induction n with
  | zero => simp [com]
  | succ n ih => simp only [com]; have := cnt_bounds c n W; have := cnt_bounds g n W; omega
/-- symbols from 0 to 9 -/
def Sym (c : List Int) (W : Nat) : Prop := ∀ i, i < W → 0 ≤ nth c i ∧ nth c i ≤ 9
theorem sum_cnt (c : List Int) (W : Nat) (h : Sym c W) : sum (fun s => cnt c s W) 10 = W := by
  induction W with
  | zero => exact sum_zero 10
  | succ k ih =>
    have h1 := ih (fun i hi => h i (by omega))
    have h2 := h k (by omega)
    simp only [cnt]
    rw [sum_add, h1, sum_ind _ _ h2.1, if_pos (by omega)]
    omega
theorem both_le (c g : List Int) (s : Int) (k : Nat) : both c g s k ≤ cnt c s k ∧ both c g s k ≤ cnt g s k := by
  induction k with
  | zero => simp [both, cnt]
  | succ k ih =>
    simp only [both, cnt]
    split <;> split <;> split <;> simp_all <;> omega
theorem sum_both (c g : List Int) (W : Nat) (h : Sym c W) : sum (fun s => both c g s W) 10 = rgt c g W := by
  induction W with
  | zero => exact sum_zero 10
  | succ k ih =>
    have h1 := ih (fun i hi => h i (by omega))
    have h2 := h k (by omega)
    simp only [both, rgt]
    rw [sum_add, h1]
    congr 1
    by_cases e : nth c k = nth g k
    · rw [if_pos e, ← e]
      simp only [and_self]
      rw [sum_ind _ _ h2.1, if_pos (by omega)]
    · rw [if_neg e]
      rw [sum_congr (g := fun _ => 0) 10 (fun i _ => if_neg (fun ⟨a, b⟩ => e (a.trans b.symm)))]
      exact sum_zero 10
theorem rgt_le_com (c g : List Int) (W : Nat) (h : Sym c W) : rgt c g W ≤ com c g W 10 := by
  rw [com_sum, ← sum_both c g W h]
  exact sum_le 10 fun i _ => by have := both_le c g i W; omega
theorem com_le (c g : List Int) (W : Nat) (h : Sym c W) : com c g W 10 ≤ W := by
  rw [com_sum]
  have := sum_cnt c W h
  have := sum_le (f := fun s : Nat => min (cnt c s W) (cnt g s W)) (g := fun s : Nat => cnt c s W) 10 (fun i _ => by omega)
  omega
theorem com_self (c : List Int) (W : Nat) (h : Sym c W) : com c c W 10 = W := by
  rw [com_sum, ← sum_cnt c W h]
  exact sum_congr 10 fun i _ => by omega
theorem com_symm (c g : List Int) (W n : Nat) : com c g W n = com g c W n := by
  rw [com_sum, com_sum]
  exact sum_congr n fun i _ => by omega
theorem rgt_symm (c g : List Int) (W : Nat) : rgt c g W = rgt g c W := by
  induction W with
  | zero => rfl
  | succ k ih => simp only [rgt]; rw [ih]; simp [eq_comm]
theorem rgt_self (c : List Int) (W : Nat) : rgt c c W = W := by
  induction W with
  | zero => rfl
  | succ k ih => simp only [rgt]; rw [ih]; simp
theorem rgt_full (c g : List Int) (W : Nat) : rgt c g W = W ↔ ∀ i, i < W → nth c i = nth g i := by
  induction W with
  | zero => simp [rgt]
  | succ k ih =>
    have hb := rgt_bounds c g k
    simp only [rgt]
    constructor
    · intro h
      split at h
      · rename_i e
        have h' : rgt c g k = k := by omega
        intro i hi
        rcases Nat.lt_succ_iff_lt_or_eq.1 hi with h1 | rfl
        · exact ih.1 h' i h1
        · exact e
      · omega
    · intro h
      rw [if_pos (h k (by omega)), ih.2 (fun i hi => h i (by omega))]
      omega


/-- the digits of n, w of them, base s, the most significant first -/
def dig (s : Nat) : Nat → Nat → List Int
  | 0, _ => []
  | w + 1, n => dig s w (n / s) ++ [((n % s : Nat) : Int)]
theorem dig_length (s w n : Nat) : (dig s w n).length = w := by
  induction w generalizing n with
  | zero => rfl
  | succ w ih => simp [dig, ih]
theorem dig_bounds {s : Nat} (hs : 0 < s) (w n : Nat) : ∀ d ∈ dig s w n, 0 ≤ d ∧ d < s := by
  induction w generalizing n with
  | zero => simp [dig]
  | succ w ih =>
    intro d hd
    simp only [dig, List.mem_append, List.mem_singleton] at hd
    rcases hd with hd | rfl
    · exact ih _ _ hd
    · have := Nat.mod_lt n hs; omega
/-- the code behind a code: the last digit that is not the greatest is one more, and those behind it are 0 -/
theorem dig_inj {s : Nat} (w n m : Nat) (hn : n < s ^ w) (hm : m < s ^ w) (h : dig s w n = dig s w m) : n = m := by
  induction w generalizing n m with
  | zero => simp at hn hm; omega
  | succ w ih =>
    simp only [dig] at h
    have h1 := List.append_inj h (by simp [dig_length])
    have hd : n / s = m / s := ih _ _ (by rw [Nat.pow_succ] at hn; exact Nat.div_lt_of_lt_mul (by rw [Nat.mul_comm]; exact hn)) (by rw [Nat.pow_succ] at hm; exact Nat.div_lt_of_lt_mul (by rw [Nat.mul_comm]; exact hm)) h1.1
    have hr : n % s = m % s := by
      have := List.singleton_inj.1 h1.2
      omega
    rw [← Nat.div_add_mod n s, ← Nat.div_add_mod m s, hd, hr]
/-- every list of digits is one -/
theorem dig_surj {s : Nat} (w : Nat) (l : List Int) (hl : l.length = w) (hd : ∀ d ∈ l, 0 ≤ d ∧ d < s) : ∃ n, n < s ^ w ∧ dig s w n = l := by
  induction w generalizing l with
  | zero => exact ⟨0, by simp, (List.eq_nil_of_length_eq_zero hl).symm⟩
  | succ w ih =>
    have hne : l ≠ [] := by intro e; subst e; simp at hl
    have hl' : l = l.dropLast ++ [l.getLast hne] := (List.dropLast_concat_getLast hne).symm
    obtain ⟨n, hn, he⟩ := ih l.dropLast (by simp [hl]) (fun d h => hd d (List.dropLast_subset _ h))
    have hb := hd (l.getLast hne) (List.getLast_mem hne)
    have hs : 0 < s := by omega
    refine ⟨n * s + (l.getLast hne).toNat, ?_, ?_⟩
    · have h1 : (l.getLast hne).toNat < s := by omega
      have h2 : (n + 1) * s ≤ s ^ w * s := Nat.mul_le_mul_right s hn
      rw [Nat.add_mul, Nat.one_mul] at h2
      rw [Nat.pow_succ]
      omega
    · simp only [dig]
      have e1 : (n * s + (l.getLast hne).toNat) / s = n := by
        rw [Nat.mul_comm, Nat.mul_add_div hs, Nat.div_eq_of_lt (by omega)]; omega
      have e2 : (n * s + (l.getLast hne).toNat) % s = (l.getLast hne).toNat := by
        rw [Nat.mul_comm, Nat.mul_add_mod, Nat.mod_eq_of_lt (by omega)]
      rw [e1, e2, he]
      conv => rhs; rw [hl']
      congr 2
      omega
/-- the order of codes -/
def Lt (a b : List Int) (k : Nat) : Prop := ∃ i, i < k ∧ (∀ j, j < i → a[j]?.getD 0 = b[j]?.getD 0) ∧ a[i]?.getD 0 < b[i]?.getD 0
theorem dig_lt {s : Nat} (w n m : Nat) (h : n < m) (hm : m < s ^ w) : Lt (dig s w n) (dig s w m) w := by
  induction w generalizing n m with
  | zero => simp at hm; omega
  | succ w ih =>
    have hm' : m / s < s ^ w := by rw [Nat.pow_succ] at hm; exact Nat.div_lt_of_lt_mul (by rw [Nat.mul_comm]; exact hm)
    rcases Nat.lt_or_ge (n / s) (m / s) with hlt | hge
    · obtain ⟨i, hi, hj, hx⟩ := ih _ _ hlt hm'
      refine ⟨i, by omega, fun j hji => ?_, ?_⟩
      · simp only [dig]
        rw [List.getElem?_append_left (by rw [dig_length]; omega), List.getElem?_append_left (by rw [dig_length]; omega)]
        exact hj j hji
      · simp only [dig]
        rw [List.getElem?_append_left (by rw [dig_length]; omega), List.getElem?_append_left (by rw [dig_length]; omega)]
        exact hx
    · have he : n / s = m / s := Nat.le_antisymm (Nat.div_le_div_right (Nat.le_of_lt h)) hge
      have hr : n % s < m % s := by
        have h1 := Nat.div_add_mod n s
        have h2 := Nat.div_add_mod m s
        rw [he] at h1
        omega
      refine ⟨w, by omega, fun j hj => ?_, ?_⟩
      · simp only [dig]; rw [he]
        rw [List.getElem?_append_left (by rw [dig_length]; omega), List.getElem?_append_left (by rw [dig_length]; omega)]
      · simp only [dig]
        rw [List.getElem?_append_right (by rw [dig_length]; omega), List.getElem?_append_right (by rw [dig_length]; omega)]
        simp [dig_length]
        exact_mod_cast hr
/-- n + 1, in digits: below wheel k all are 0 in the next, and the greatest in this one -/
theorem dig_succ {s : Nat} (hs : 1 < s) (w n : Nat) (hn : n + 1 < s ^ w) : ∃ k, k < w ∧ (∀ j, j < k → (dig s w (n + 1))[j]?.getD 0 = (dig s w n)[j]?.getD 0) ∧
    (dig s w (n + 1))[k]?.getD 0 = (dig s w n)[k]?.getD 0 + 1 ∧ (dig s w n)[k]?.getD 0 + 1 < s ∧ ∀ j, k < j → j < w → (dig s w n)[j]?.getD 0 + 1 = s ∧ (dig s w (n + 1))[j]?.getD 0 = 0 := by
  induction w generalizing n with
  | zero => simp at hn
  | succ w ih =>
    by_cases hr : n % s + 1 < s
    · have hd : (n + 1) / s = n / s := by
        rw [← Nat.div_add_mod n s, Nat.add_assoc, Nat.mul_add_div (by omega), Nat.div_eq_of_lt hr, Nat.mul_add_div (by omega), Nat.div_eq_of_lt (Nat.mod_lt n (by omega))]
      have hm : (n + 1) % s = n % s + 1 := by
        rw [← Nat.div_add_mod n s, Nat.add_assoc, Nat.mul_add_mod, Nat.mod_eq_of_lt hr, Nat.mul_add_mod, Nat.mod_mod]
      refine ⟨w, by omega, fun j hj => ?_, ?_, ?_, fun j h1 h2 => by omega⟩
      · simp only [dig]; rw [hd]
        rw [List.getElem?_append_left (by rw [dig_length]; omega), List.getElem?_append_left (by rw [dig_length]; omega)]
      · simp only [dig]; rw [hm]
        rw [List.getElem?_append_right (by rw [dig_length]; omega), List.getElem?_append_right (by rw [dig_length]; omega)]
        simp [dig_length]
      · simp only [dig]
        rw [List.getElem?_append_right (by rw [dig_length]; omega)]
        simp [dig_length]
        omega
    · have hlt := Nat.mod_lt n (show 0 < s by omega)
      have hr' : n % s = s - 1 := by omega
      have e : n + 1 = s * (n / s + 1) := by
        have h1 := Nat.div_add_mod n s
        rw [Nat.mul_add, Nat.mul_one]
        omega
      have hd : (n + 1) / s = n / s + 1 := by rw [e, Nat.mul_div_cancel_left _ (by omega)]
      have hm : (n + 1) % s = 0 := by rw [e, Nat.mul_mod_right]
      have hn' : n / s + 1 < s ^ w := by
        rw [← hd]; rw [Nat.pow_succ] at hn; exact Nat.div_lt_of_lt_mul (by rw [Nat.mul_comm]; exact hn)
      obtain ⟨k, hk, h1, h2, h3, h4⟩ := ih (n / s) hn'
      have L : ∀ (x : Nat) (j : Nat), j < w → (dig s (w + 1) x)[j]?.getD 0 = (dig s w (x / s))[j]?.getD 0 := fun x j hj => by
        simp only [dig]; rw [List.getElem?_append_left (by rw [dig_length]; omega)]
      have R : ∀ (x : Nat), (dig s (w + 1) x)[w]?.getD 0 = ((x % s : Nat) : Int) := fun x => by
        simp only [dig]; rw [List.getElem?_append_right (by rw [dig_length]; omega)]; simp [dig_length]
      refine ⟨k, by omega, fun j hj => ?_, ?_, ?_, fun j hj1 hj2 => ?_⟩
      · rw [L _ _ (by omega), L _ _ (by omega), hd]; exact h1 j hj
      · rw [L _ _ (by omega), L _ _ (by omega), hd]; exact h2
      · rw [L _ _ (by omega)]; exact h3
      · rcases Nat.lt_or_ge j w with hj | hj
        · rw [L _ _ (by omega), L _ _ (by omega), hd]; exact h4 j hj1 hj
        · obtain rfl : j = w := by omega
          rw [R, R, hr', hm]
          omega
/-- the last code has the greatest digits alone -/
theorem dig_last {s : Nat} (hs : 1 < s) (w n : Nat) (hn : n + 1 = s ^ w) : ∀ j, j < w → (dig s w n)[j]?.getD 0 + 1 = s := by
  induction w generalizing n with
  | zero => intro j hj; omega
  | succ w ih =>
    have hp : 0 < s ^ w := Nat.pow_pos (by omega)
    have e : n = s * (s ^ w - 1) + (s - 1) := by
      rw [Nat.pow_succ, Nat.mul_comm] at hn
      rw [Nat.mul_sub_one]
      have : s ≤ s * s ^ w := Nat.le_mul_of_pos_right s hp
      omega
    have hd : n / s = s ^ w - 1 := by rw [e, Nat.mul_add_div (by omega), Nat.div_eq_of_lt (by omega)]; omega
    have hm : n % s = s - 1 := by rw [e, Nat.mul_add_mod, Nat.mod_eq_of_lt (by omega)]
    intro j hj
    simp only [dig]
    rcases Nat.lt_or_ge j w with h | h
    · rw [List.getElem?_append_left (by rw [dig_length]; omega), hd]
      exact ih _ (by omega) j h
    · obtain rfl : j = w := by omega
      rw [List.getElem?_append_right (by rw [dig_length]; omega), hm]
      simp [dig_length]
      omega
theorem dig_zero (s w : Nat) : ∀ j : Nat, (dig s w 0)[j]?.getD 0 = 0 := by
  induction w with
  | zero => simp [dig]
  | succ w ih =>
    intro j
    simp only [dig]
    rw [Nat.zero_div]
    rcases Nat.lt_or_ge j w with h | h
    · rw [List.getElem?_append_left (by rw [dig_length]; omega)]; exact ih j
    · rw [List.getElem?_append_right (by rw [dig_length]; omega)]
      rcases Nat.eq_zero_or_pos (j - (dig s w 0).length) with h0 | h0
      · rw [h0]; simp
      · rw [List.getElem?_eq_none (by simp; omega)]; rfl
end Go.Proofs.YtadbkoioipjgmaaDoor
