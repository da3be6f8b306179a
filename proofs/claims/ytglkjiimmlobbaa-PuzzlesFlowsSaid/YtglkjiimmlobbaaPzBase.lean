/-
  WHAT IS GENERIC of the base: mathematics, memory, regions that draw their order.
-/
import Derived.RowKit3
import Derived.Test.YtglkjiimmlobbaaRows
import Derived.WalkKit
import Derived.WalkSpells
import Derived.WalkLawsBesides
import Derived.Lib.Hide
import Derived.Deep.QuietTactic
import Derived.BigQuiet
import Derived.Laws.CopyOwn
import Derived.Deep.DeepMust
import Derived.Orders
import Derived.Shelf.Abstract
namespace Go.Proofs.Ytglkjiimmlobbaa
/-- the element k, 0 beyond the end -/
def nth (xs : List Int) (k : Nat) : Int := xs[k]?.getD 0
theorem nth_lt {xs : List Int} {k : Nat} (h : k < xs.length) : nth xs k = xs[k] := by simp [nth, h]
/-- how many of the first k wheels show s -/
def cnt (c : List Int) (s : Int) : Nat → Int
  | 0 => 0
  | k + 1 => cnt c s k + if nth c k = s then 1 else 0
def rgt (c g : List Int) : Nat → Int
  | 0 => 0
  | k + 1 => rgt c g k + if nth c k = nth g k then 1 else 0
/-- symbols in common, of the first s symbols, at W wheels -/
def com (c g : List Int) (W : Nat) : Nat → Int
  | 0 => 0
  | s + 1 => com c g W s + min (cnt c s W) (cnt g s W)
def both (c g : List Int) (s : Int) : Nat → Int
  | 0 => 0
  | k + 1 => both c g s k + if nth c k = s ∧ nth g k = s then 1 else 0
def sum (f : Nat → Int) : Nat → Int
  | 0 => 0
  | n + 1 => sum f n + f n
theorem sum_le {f g : Nat → Int} (n : Nat) (h : ∀ i, i < n → f i ≤ g i) : sum f n ≤ sum g n := by
  induction n with
  | zero => exact Int.le_refl _
  | succ n ih => simp only [sum]; have := ih (fun i hi => h i (by omega)); have := h n (by omega); omega
theorem sum_congr {f g : Nat → Int} (n : Nat) (h : ∀ i, i < n → f i = g i) : sum f n = sum g n := by
  induction n with
  | zero => rfl
  | succ n ih => simp only [sum]; rw [ih (fun i hi => h i (by omega)), h n (by omega)]
theorem sum_add (f g : Nat → Int) (n : Nat) : sum (fun i => f i + g i) n = sum f n + sum g n := by
  induction n with
  | zero => rfl
  | succ n ih => simp only [sum]; rw [ih]; omega
theorem sum_zero (n : Nat) : sum (fun _ => 0) n = 0 := by
  induction n with
  | zero => rfl
  | succ n ih => simp only [sum]; omega
/-- one symbol counts once -/
theorem sum_ind (x : Int) (n : Nat) (h0 : 0 ≤ x) : sum (fun s => if x = (s : Int) then 1 else 0) n = if x < n then 1 else 0 := by
  induction n with
  | zero => simp [sum]; omega
  | succ n ih =>
    simp only [sum]; rw [ih]
    split <;> split <;> split <;> omega
theorem com_sum (c g : List Int) (W n : Nat) : com c g W n = sum (fun s => min (cnt c s W) (cnt g s W)) n := by
  induction n with
  | zero => rfl
  | succ n ih => simp only [com, sum]; rw [ih]
theorem cnt_bounds (c : List Int) (s : Int) (k : Nat) : 0 ≤ cnt c s k ∧ cnt c s k ≤ k := by
  induction k with
  | zero => simp [cnt]
  | succ k ih => simp only [cnt]; split <;> omega
theorem rgt_bounds (c g : List Int) (k : Nat) : 0 ≤ rgt c g k ∧ rgt c g k ≤ k := by
  induction k with
  | zero => simp [rgt]
  | succ k ih => simp only [rgt]; split <;> omega
theorem com_nonneg (c g : List Int) (W n : Nat) : 0 ≤ com c g W n := by
  induction n with
  | zero => simp [com]
  | succ n ih => simp only [com]; have := cnt_bounds c n W; have := cnt_bounds g n W; omega
/-- symbols from 0 to 9 -/
def Sym (c : List Int) (W : Nat) : Prop := ∀ i, i < W → 0 ≤ nth c i ∧ nth c i ≤ 9
theorem sum_cnt (c : List Int) (W : Nat) (h : Sym c W) : sum (fun s => cnt c s W) 10 = W := by
  induction W with
  | zero => exact sum_zero 10
  | succ k ih =>
    have h1 := ih (fun i hi => h i (by omega))
    have h2 := h k (by omega)
    simp only [cnt]
    rw [sum_add, h1, sum_ind _ _ h2.1, if_pos (by omega)]
    omega
theorem both_le (c g : List Int) (s : Int) (k : Nat) : both c g s k ≤ cnt c s k ∧ both c g s k ≤ cnt g s k := by
  induction k with
  | zero => simp [both, cnt]
  | succ k ih =>
    simp only [both, cnt]
    split <;> split <;> split <;> simp_all <;> omega
theorem sum_both (c g : List Int) (W : Nat) (h : Sym c W) : sum (fun s => both c g s W) 10 = rgt c g W := by
  induction W with
  | zero => exact sum_zero 10
  | succ k ih =>
    have h1 := ih (fun i hi => h i (by omega))
    have h2 := h k (by omega)
    simp only [both, rgt]
    rw [sum_add, h1]
    congr 1
    by_cases e : nth c k = nth g k
    · rw [if_pos e, ← e]
      simp only [and_self]
      rw [sum_ind _ _ h2.1, if_pos (by omega)]
    · rw [if_neg e]
      rw [sum_congr (g := fun _ => 0) 10 (fun i _ => if_neg (fun ⟨a, b⟩ => e (a.trans b.symm)))]
      exact sum_zero 10
theorem rgt_le_com (c g : List Int) (W : Nat) (h : Sym c W) : rgt c g W ≤ com c g W 10 := by
  rw [com_sum, ← sum_both c g W h]
  exact sum_le 10 fun i _ => by have := both_le c g i W; omega
theorem com_le (c g : List Int) (W : Nat) (h : Sym c W) : com c g W 10 ≤ W := by
  rw [com_sum]
  have := sum_cnt c W h
  have := sum_le (f := fun s : Nat => min (cnt c s W) (cnt g s W)) (g := fun s : Nat => cnt c s W) 10 (fun i _ => by omega)
  omega
theorem com_self (c : List Int) (W : Nat) (h : Sym c W) : com c c W 10 = W := by
  rw [com_sum, ← sum_cnt c W h]
  exact sum_congr 10 fun i _ => by omega
theorem com_symm (c g : List Int) (W n : Nat) : com c g W n = com g c W n := by
  rw [com_sum, com_sum]
  exact sum_congr n fun i _ => by omega
theorem rgt_symm (c g : List Int) (W : Nat) : rgt c g W = rgt g c W := by
  induction W with
  | zero => rfl
  | succ k ih => simp only [rgt]; rw [ih]; simp [eq_comm]
theorem rgt_self (c : List Int) (W : Nat) : rgt c c W = W := by
  induction W with
  | zero => rfl
  | succ k ih => simp only [rgt]; rw [ih]; simp
theorem rgt_full (c g : List Int) (W : Nat) : rgt c g W = W ↔ ∀ i, i < W → nth c i = nth g i := by
  induction W with
  | zero => simp [rgt]
  | succ k ih =>
    have hb := rgt_bounds c g k
    simp only [rgt]
    constructor
    · intro h
      split at h
      · rename_i e
        have h' : rgt c g k = k := by omega
        intro i hi
        rcases Nat.lt_succ_iff_lt_or_eq.1 hi with h1 | rfl
        · exact ih.1 h' i h1
        · exact e
      · omega
    · intro h
      rw [if_pos (h k (by omega)), ih.2 (fun i hi => h i (by omega))]
      omega


/-- the digits of n, w of them, base s, the most significant first -/
def dig (s : Nat) : Nat → Nat → List Int
  | 0, _ => []
  | w + 1, n => dig s w (n / s) ++ [((n % s : Nat) : Int)]
theorem dig_length (s w n : Nat) : (dig s w n).length = w := by
  induction w generalizing n with
  | zero => rfl
  | succ w ih => simp [dig, ih]
theorem dig_bounds {s : Nat} (hs : 0 < s) (w n : Nat) : ∀ d ∈ dig s w n, 0 ≤ d ∧ d < s := by
  induction w generalizing n with
  | zero => simp [dig]
  | succ w ih =>
    intro d hd
    simp only [dig, List.mem_append, List.mem_singleton] at hd
    rcases hd with hd | rfl
    · exact ih _ _ hd
    · have := Nat.mod_lt n hs; omega
/-- the code behind a code: the last digit that is not the greatest is one more, and those behind it are 0 -/
theorem dig_inj {s : Nat} (w n m : Nat) (hn : n < s ^ w) (hm : m < s ^ w) (h : dig s w n = dig s w m) : n = m := by
  induction w generalizing n m with
  | zero => simp at hn hm; omega
  | succ w ih =>
    simp only [dig] at h
    have h1 := List.append_inj h (by simp [dig_length])
    have hd : n / s = m / s := ih _ _ (by rw [Nat.pow_succ] at hn; exact Nat.div_lt_of_lt_mul (by rw [Nat.mul_comm]; exact hn)) (by rw [Nat.pow_succ] at hm; exact Nat.div_lt_of_lt_mul (by rw [Nat.mul_comm]; exact hm)) h1.1
    have hr : n % s = m % s := by
      have := List.singleton_inj.1 h1.2
      omega
    rw [← Nat.div_add_mod n s, ← Nat.div_add_mod m s, hd, hr]
/-- every list of digits is one -/
theorem dig_surj {s : Nat} (w : Nat) (l : List Int) (hl : l.length = w) (hd : ∀ d ∈ l, 0 ≤ d ∧ d < s) : ∃ n, n < s ^ w ∧ dig s w n = l := by
  induction w generalizing l with
  | zero => exact ⟨0, by simp, (List.eq_nil_of_length_eq_zero hl).symm⟩
  | succ w ih =>
    have hne : l ≠ [] := by intro e; subst e; simp at hl
    have hl' : l = l.dropLast ++ [l.getLast hne] := (List.dropLast_concat_getLast hne).symm
    obtain ⟨n, hn, he⟩ := ih l.dropLast (by simp [hl]) (fun d h => hd d (List.dropLast_subset _ h))
    have hb := hd (l.getLast hne) (List.getLast_mem hne)
    have hs : 0 < s := by omega
    refine ⟨n * s + (l.getLast hne).toNat, ?_, ?_⟩
    · have h1 : (l.getLast hne).toNat < s := by omega
      have h2 : (n + 1) * s ≤ s ^ w * s := Nat.mul_le_mul_right s hn
      rw [Nat.add_mul, Nat.one_mul] at h2
      rw [Nat.pow_succ]
      omega
    · simp only [dig]
      have e1 : (n * s + (l.getLast hne).toNat) / s = n := by
        rw [Nat.mul_comm, Nat.mul_add_div hs, Nat.div_eq_of_lt (by omega)]; omega
      have e2 : (n * s + (l.getLast hne).toNat) % s = (l.getLast hne).toNat := by
        rw [Nat.mul_comm, Nat.mul_add_mod, Nat.mod_eq_of_lt (by omega)]
      rw [e1, e2, he]
      conv => rhs; rw [hl']
      congr 2
      omega
/-- the order of codes -/
def Lt (a b : List Int) (k : Nat) : Prop := ∃ i, i < k ∧ (∀ j, j < i → a[j]?.getD 0 = b[j]?.getD 0) ∧ a[i]?.getD 0 < b[i]?.getD 0
theorem dig_lt {s : Nat} (w n m : Nat) (h : n < m) (hm : m < s ^ w) : Lt (dig s w n) (dig s w m) w := by
  induction w generalizing n m with
  | zero => simp at hm; omega
  | succ w ih =>
    have hm' : m / s < s ^ w := by rw [Nat.pow_succ] at hm; exact Nat.div_lt_of_lt_mul (by rw [Nat.mul_comm]; exact hm)
    rcases Nat.lt_or_ge (n / s) (m / s) with hlt | hge
    · obtain ⟨i, hi, hj, hx⟩ := ih _ _ hlt hm'
      refine ⟨i, by omega, fun j hji => ?_, ?_⟩
      · simp only [dig]
        rw [List.getElem?_append_left (by rw [dig_length]; omega), List.getElem?_append_left (by rw [dig_length]; omega)]
        exact hj j hji
      · simp only [dig]
        rw [List.getElem?_append_left (by rw [dig_length]; omega), List.getElem?_append_left (by rw [dig_length]; omega)]
        exact hx
    · have he : n / s = m / s := Nat.le_antisymm (Nat.div_le_div_right (Nat.le_of_lt h)) hge
      have hr : n % s < m % s := by
        have h1 := Nat.div_add_mod n s
        have h2 := Nat.div_add_mod m s
        rw [he] at h1
        omega
      refine ⟨w, by omega, fun j hj => ?_, ?_⟩
      · simp only [dig]; rw [he]
        rw [List.getElem?_append_left (by rw [dig_length]; omega), List.getElem?_append_left (by rw [dig_length]; omega)]
      · simp only [dig]
        rw [List.getElem?_append_right (by rw [dig_length]; omega), List.getElem?_append_right (by rw [dig_length]; omega)]
        simp [dig_length]
        exact_mod_cast hr
/-- n + 1, in digits: below wheel k all are 0 in the next, and the greatest in this one -/
theorem dig_succ {s : Nat} (hs : 1 < s) (w n : Nat) (hn : n + 1 < s ^ w) : ∃ k, k < w ∧ (∀ j, j < k → (dig s w (n + 1))[j]?.getD 0 = (dig s w n)[j]?.getD 0) ∧
    (dig s w (n + 1))[k]?.getD 0 = (dig s w n)[k]?.getD 0 + 1 ∧ (dig s w n)[k]?.getD 0 + 1 < s ∧ ∀ j, k < j → j < w → (dig s w n)[j]?.getD 0 + 1 = s ∧ (dig s w (n + 1))[j]?.getD 0 = 0 := by
  induction w generalizing n with
  | zero => simp at hn
  | succ w ih =>
    by_cases hr : n % s + 1 < s
    · have hd : (n + 1) / s = n / s := by
        rw [← Nat.div_add_mod n s, Nat.add_assoc, Nat.mul_add_div (by omega), Nat.div_eq_of_lt hr, Nat.mul_add_div (by omega), Nat.div_eq_of_lt (Nat.mod_lt n (by omega))]
      have hm : (n + 1) % s = n % s + 1 := by
        rw [← Nat.div_add_mod n s, Nat.add_assoc, Nat.mul_add_mod, Nat.mod_eq_of_lt hr, Nat.mul_add_mod, Nat.mod_mod]
      refine ⟨w, by omega, fun j hj => ?_, ?_, ?_, fun j h1 h2 => by omega⟩
      · simp only [dig]; rw [hd]
        rw [List.getElem?_append_left (by rw [dig_length]; omega), List.getElem?_append_left (by rw [dig_length]; omega)]
      · simp only [dig]; rw [hm]
        rw [List.getElem?_append_right (by rw [dig_length]; omega), List.getElem?_append_right (by rw [dig_length]; omega)]
        simp [dig_length]
      · simp only [dig]
        rw [List.getElem?_append_right (by rw [dig_length]; omega)]
        simp [dig_length]
        omega
    · have hlt := Nat.mod_lt n (show 0 < s by omega)
      have hr' : n % s = s - 1 := by omega
      have e : n + 1 = s * (n / s + 1) := by
        have h1 := Nat.div_add_mod n s
        rw [Nat.mul_add, Nat.mul_one]
        omega
      have hd : (n + 1) / s = n / s + 1 := by rw [e, Nat.mul_div_cancel_left _ (by omega)]
      have hm : (n + 1) % s = 0 := by rw [e, Nat.mul_mod_right]
      have hn' : n / s + 1 < s ^ w := by
        rw [← hd]; rw [Nat.pow_succ] at hn; exact Nat.div_lt_of_lt_mul (by rw [Nat.mul_comm]; exact hn)
      obtain ⟨k, hk, h1, h2, h3, h4⟩ := ih (n / s) hn'
      have L : ∀ (x : Nat) (j : Nat), j < w → (dig s (w + 1) x)[j]?.getD 0 = (dig s w (x / s))[j]?.getD 0 := fun x j hj => by
        simp only [dig]; rw [List.getElem?_append_left (by rw [dig_length]; omega)]
      have R : ∀ (x : Nat), (dig s (w + 1) x)[w]?.getD 0 = ((x % s : Nat) : Int) := fun x => by
        simp only [dig]; rw [List.getElem?_append_right (by rw [dig_length]; omega)]; simp [dig_length]
      refine ⟨k, by omega, fun j hj => ?_, ?_, ?_, fun j hj1 hj2 => ?_⟩
      · rw [L _ _ (by omega), L _ _ (by omega), hd]; exact h1 j hj
      · rw [L _ _ (by omega), L _ _ (by omega), hd]; exact h2
      · rw [L _ _ (by omega)]; exact h3
      · rcases Nat.lt_or_ge j w with hj | hj
        · rw [L _ _ (by omega), L _ _ (by omega), hd]; exact h4 j hj1 hj
        · obtain rfl : j = w := by omega
          rw [R, R, hr', hm]
          omega
/-- the last code has the greatest digits alone -/
theorem dig_last {s : Nat} (hs : 1 < s) (w n : Nat) (hn : n + 1 = s ^ w) : ∀ j, j < w → (dig s w n)[j]?.getD 0 + 1 = s := by
  induction w generalizing n with
  | zero => intro j hj; omega
  | succ w ih =>
    have hp : 0 < s ^ w := Nat.pow_pos (by omega)
    have e : n = s * (s ^ w - 1) + (s - 1) := by
      rw [Nat.pow_succ, Nat.mul_comm] at hn
      rw [Nat.mul_sub_one]
      have : s ≤ s * s ^ w := Nat.le_mul_of_pos_right s hp
      omega
    have hd : n / s = s ^ w - 1 := by rw [e, Nat.mul_add_div (by omega), Nat.div_eq_of_lt (by omega)]; omega
    have hm : n % s = s - 1 := by rw [e, Nat.mul_add_mod, Nat.mod_eq_of_lt (by omega)]
    intro j hj
    simp only [dig]
    rcases Nat.lt_or_ge j w with h | h
    · rw [List.getElem?_append_left (by rw [dig_length]; omega), hd]
      exact ih _ (by omega) j h
    · obtain rfl : j = w := by omega
      rw [List.getElem?_append_right (by rw [dig_length]; omega), hm]
      simp [dig_length]
      omega
theorem dig_zero (s w : Nat) : ∀ j : Nat, (dig s w 0)[j]?.getD 0 = 0 := by
  induction w with
  | zero => simp [dig]
  | succ w ih =>
    intro j
    simp only [dig]
    rw [Nat.zero_div]
    rcases Nat.lt_or_ge j w with h | h
    · rw [List.getElem?_append_left (by rw [dig_length]; omega)]; exact ih j
    · rw [List.getElem?_append_right (by rw [dig_length]; omega)]
      rcases Nat.eq_zero_or_pos (j - (dig s w 0).length) with h0 | h0
      · rw [h0]; simp
      · rw [List.getElem?_eq_none (by simp; omega)]; rfl
end Go.Proofs.Ytglkjiimmlobbaa
/-
  CONTRACTS of the smallest functions: within, hasWheel, hasSymbol, the lock's check.
-/
namespace Go.Proofs.Ytglkjiimmlobbaa
open Go.RowKit
def wi (n lo hi : Int) : Bool := decide (lo ≤ n) && decide (n ≤ hi)
abbrev I (n : Int) : Value := .int .i64 n
theorem ret_bool {a b : Bool} (h : a = b) : Ending.returned (.bool a) = .returned (.bool b) := by rw [h]
theorem ret_int {a b : Int} (h : a = b) : Ending.returned (.int .i64 a) = .returned (.int .i64 b) := by rw [h]

set_option maxHeartbeats 400000 in
theorem within_any (n lo hi : Int) (w : World) :
    Calls Try.prog 65 #[.int .i64 n, .int .i64 lo, .int .i64 hi] w fun e w' => e = .returned (.bool (wi n lo hi)) ∧ w = w' := by
  by_cases h : lo ≤ n
  all_goals
    go_enter Try.func65, Try.ntmps65
    go_wp2
    go_ret
    exact ⟨ret_bool (by simp [wi]; omega), rfl⟩

end Go.Proofs.Ytglkjiimmlobbaa
/-
  WORDS FOR MEMORY: a slice of integers that is read; boxes of the call's own.
-/
namespace Go.Proofs.Ytglkjiimmlobbaa
open Go.RowKit
theorem block_of_add (a : Addr) (n : Nat) : (a.add n).block = a.block := by unfold Addr.add; split <;> rfl
theorem add_of_add (a : Addr) (i j : Nat) : (a.add i).add j = a.add (i + j) := by
  unfold Addr.add
  by_cases hi : i = 0 <;> by_cases hj : j = 0 <;> simp [hi, hj, Nat.add_assoc]
/-- the cells of xs lie at A, below block B -/
def IntsR (w : World) (B : Nat) (A : Option Addr) (xs : List Int) : Prop :=
  0 < xs.length → ∃ ad, A = some ad ∧ ad.block < B ∧ ∀ j, j < xs.length → w.cell? (ad.add j) = some (.int .i64 (nth xs j))
theorem IntsR.at_ {w : World} {B : Nat} {A : Option Addr} {xs : List Int} (h : IntsR w B A xs) {k : Nat} (hk : k < xs.length) : ∃ ad, A = some ad ∧ ad.block < B ∧ w.cell? (ad.add k) = some (.int .i64 (nth xs k)) := by
  obtain ⟨ad, e, hb, hc⟩ := h (by omega)
  exact ⟨ad, e, hb, hc k hk⟩
theorem IntsR.below {w w' : World} {B B' : Nat} {A : Option Addr} {xs : List Int} (h : IntsR w B A xs) (hb : Below B' w w') (hB : B ≤ B') : IntsR w' B A xs := fun h0 => by
  obtain ⟨ad, e, hl, hc⟩ := h h0
  exact ⟨ad, e, hl, fun j hj => (hb.cell (by rw [block_of_add]; omega)).trans (hc j hj)⟩
theorem IntsR.more {w : World} {B B' : Nat} {A : Option Addr} {xs : List Int} (h : IntsR w B A xs) (hB : B ≤ B') : IntsR w B' A xs := fun h0 => by
  obtain ⟨ad, e, hl, hc⟩ := h h0
  exact ⟨ad, e, by omega, hc⟩
theorem IntsR.nil {w : World} {B : Nat} {A : Option Addr} : IntsR w B A [] := fun h => absurd h (by simp)
theorem alloc_cell (w : World) (cs : Array Value) (t : TypeId) (i : Nat) : (w.alloc (.cells cs t)).cell? ⟨w.heap.size, i, none⟩ = cs[i]? := by
  exact cell_of_row _ w.heap.size i cs t (0, 0) (heap_alloc_new w _)
/-- a cell of a box of the call's own, later -/
theorem box_later {w wr : World} {cs : Array Value} {t : TypeId} {B : Nat} (h : Below B (w.alloc (.cells cs t)) wr) (hB : w.heap.size < B) (i : Nat) : wr.cell? ⟨w.heap.size, i, none⟩ = cs[i]? :=
  (h.cell (p := ⟨w.heap.size, i, none⟩) hB).trans (alloc_cell w cs t i)
/-- whatever stood in w1 stands in w' as it was: what is held of the world in a region that draws its order -/
def KeptS (w1 w' : World) : Prop := Below w1.heap.size w1 w' ∧ (∀ b o, b < w1.heap.size → w'.cell? ⟨b, o, none⟩ = w1.cell? ⟨b, o, none⟩)
theorem keptS_of {w1 w' : World} (h : Below w1.heap.size w1 w') : KeptS w1 w' := ⟨h, fun b o hb => h.cell (p := ⟨b, o, none⟩) hb⟩
theorem keptS_drew (w1 : World) : KeptS w1 w1.drew := keptS_of (Below.refl _ _).drew
theorem keptS_call {w1 w' w2 : World} (h : KeptS w1 w') (hb : Below w'.heap.size w' w2) : KeptS w1 w2 := keptS_of (h.1.trans (hb.mono h.1.size))
theorem keptS_alloc {w1 w' : World} (h : KeptS w1 w') (o : Obj) : KeptS w1 (w'.alloc o) := keptS_of (h.1.alloc h.1.size o)
theorem keptS_set {w1 w' : World} (h : KeptS w1 w') {p : Addr} (hp : w1.heap.size ≤ p.block) (v : Value) : KeptS w1 (w'.setCell p v) := keptS_of (h.1.setCell hp v)
theorem beq_dec (a b : Int) : (a == b) = decide (a = b) := by by_cases h : a = b <;> simp [h]
theorem all_take_snoc (p : Int → Bool) (xs : List Int) (k : Nat) (hk : k < xs.length) (h : (xs.take k).all p = true) (hp : p (nth xs k) = true) : (xs.take (k + 1)).all p = true := by
  rw [List.take_succ_eq_append_getElem hk, List.all_append, h]
  rw [nth_lt hk] at hp
  simpa using hp
theorem not_all (p : Int → Bool) (xs : List Int) (k : Nat) (hk : k < xs.length) (hp : p (nth xs k) = false) : xs.all p = false := by
  rw [nth_lt hk] at hp
  rw [List.all_eq_false]
  exact ⟨_, List.getElem_mem hk, by simpa using hp⟩

def inB (lo hi : Int) (xs : List Int) : Bool := xs.all fun s => wi s lo hi

set_option maxHeartbeats 400000 in
theorem allWithin_any (lo hi : Int) (A : Option Addr) (c : Nat) (xs : List Int) (w : World) (hx : IntsR w w.heap.size A xs) (hl : xs.length ≤ maxLen) :
    Calls Try.prog 130 #[.slice A xs.length c, .int .i64 lo, .int .i64 hi] w fun e w' => e = .returned (.bool (inB lo hi xs)) ∧ Below w.heap.size w w' := by
  unfold maxLen at hl
  go_enter Try.func130, Try.ntmps130
  go_wp2
  go_loopw [11] (fun i wr => ∃ k : Nat, k ≤ xs.length ∧ i = .int .i64 k ∧ (xs.take k).all (fun s => wi s lo hi) = true ∧ Below w.heap.size w wr) (fun i _ => xs.length - (intOf i).toNat)
  case atStart => exact ⟨0, Nat.zero_le _, rfl, rfl, Below.refl _ _⟩
  case round =>
    obtain ⟨k, hk, rfl, hall, hbw⟩ := hrel
    have hx' := hx.below hbw (Nat.le_refl _)
    clear hx
    by_cases hlt : k < xs.length
    · obtain ⟨ad, rfl, hb, hc⟩ := hx'.at_ hlt
      have HA := Lib.hid hall
      clear hall
      cases hp : wi (nth xs k) lo hi
      · have h2 : inB lo hi xs = false := not_all (fun s => wi s lo hi) xs k hlt hp
        have H2 := Lib.hid h2
        clear h2
        go_wp2_with (go_at_call 65; refine (within_any _ _ _ _).mono ?_; rintro e w' ⟨rfl, rfl⟩)
        go_ret
        exact ⟨ret_bool H2.out.symm, hbw⟩
      · go_wp2_with (go_at_call 65; refine (within_any _ _ _ _).mono ?_; rintro e w' ⟨rfl, rfl⟩)
        go_roundw
        case rel => exact ⟨k + 1, by omega, by go_num, all_take_snoc _ xs k hlt HA.out hp, hbw⟩
        case measure => simp [intOf]; omega
    · obtain rfl : k = xs.length := by omega
      rw [List.take_length] at hall
      have HA := Lib.hid hall
      clear hall
      go_wp2
      go_ret
      exact ⟨ret_bool HA.out.symm, hbw⟩

end Go.Proofs.Ytglkjiimmlobbaa
/-
  CONTRACTS: rowOf, counts.
-/
namespace Go.Proofs.Ytglkjiimmlobbaa
open Go.RowKit
def rowCells (c : List Int) : List Value := [I (nth c 0), I (nth c 1), I (nth c 2), I (nth c 3)]
abbrev rowV (c : List Int) : Value := .agg #[I (nth c 0), I (nth c 1), I (nth c 2), I (nth c 3)]
theorem splice_row (xs : List Int) (h : xs.length ≤ 4) : splice [I 0, I 0, I 0, I 0] 0 (xs.map I) = rowCells xs := by
  match xs, h with
  | [], _ => rfl
  | [_], _ => rfl
  | [_, _], _ => rfl
  | [_, _, _], _ => rfl
  | [_, _, _, _], _ => rfl

theorem size_two (w : World) (a b : Obj) : ((w.alloc a).alloc b).heap[w.heap.size + 1]? = some b := by
  have := heap_alloc_new (w.alloc a) b
  rwa [World.size_alloc] at this
theorem min_len (n : Nat) (h : n ≤ 4) : n = Nat.min n 4 := (Nat.min_eq_left h).symm
theorem src_cells {w w' : World} {A : Option Addr} {xs : List Int} (hx : IntsR w w.heap.size A xs) (hb : Below w.heap.size w w') (h0 : 0 < (xs.map I).length) :
    ∃ ad, A = some ad ∧ ∀ j v, (xs.map I)[j]? = some v → w'.cell? (ad.add j) = some v := by
  obtain ⟨ad, e, hl, hc⟩ := hx (by simpa using h0)
  refine ⟨ad, e, fun j v hv => ?_⟩
  have hj : j < xs.length := by
    have := (List.getElem?_eq_some_iff.1 hv).1
    simpa using this
  rw [hb.cell (p := ad.add j) (by rw [block_of_add]; exact hl), hc j hj, ← hv, nth_lt hj]
  simp [hj]

theorem alloc_obj (w : World) (o : Obj) (g : Nat) (hg : g = w.heap.size) : (w.alloc o).heap[g]? = some o := by subst hg; exact heap_alloc_new w o
theorem alloc_cell' (w : World) (cs : Array Value) (t : TypeId) (g i : Nat) (hg : g = w.heap.size) : (w.alloc (.cells cs t)).cell? ⟨g, i, none⟩ = cs[i]? := by subst hg; exact alloc_cell w cs t i
theorem frozen_of_row {w : World} {g : Nat} {cs : Array Value} {t : TypeId} (h : w.heap[g]? = some (.cells cs t (0, 0))) (i : Nat) : w.frozen? ⟨g, i, none⟩ = false := by
  simp [World.frozen?, h]
theorem row_set {w : World} {g : Nat} {cs : Array Value} {t : TypeId} (h : w.heap[g]? = some (.cells cs t (0, 0))) (i : Nat) (u : Value) : (w.setCell ⟨g, i, none⟩ u).heap[g]? = some (.cells (cs.setIfInBounds i u) t (0, 0)) := by
  simp [World.setCell, Array.getElem?_modify, h]
theorem rowCells_at (c : List Int) (k : Nat) (h : k < 4) : #[I (nth c 0), I (nth c 1), I (nth c 2), I (nth c 3)][k]? = some (I (nth c k)) := by
  match k, h with
  | 0, _ => rfl
  | 1, _ => rfl
  | 2, _ => rfl
  | 3, _ => rfl

end Go.Proofs.Ytglkjiimmlobbaa
/-
  A REGION THAT DRAWS ITS ORDER, BY AN INVARIANT: one obligation for each operation, whatever the order.
-/
namespace Go
section
variable {P : Program} {ops : Array Oper} {Q : Exit → Act → World → Prop}
theorem wpAny_inv (J : Array Bool → Act → World → Prop)
    (hs : ∀ (i : Nat) (L : Array Bool) (a : Act) (w : World), J L a w → i ∈ Region.ready .any ops L → wpOp P ops Q i (J (L.setIfInBounds i true)) a w)
    (hd : ∀ (L : Array Bool) (a : Act) (w : World), J L a w → Region.ready .any ops L = [] → Q .normal a w) :
    ∀ (fuel : Nat) (L : Array Bool) (a : Act) (w : World), L.size = ops.size → (L.toList.countP (! ·)) ≤ fuel → J L a w → wpAny P .any ops Q fuel L a w := by
  intro fuel
  induction fuel with
  | zero =>
    intro L a w hL hc hJ
    have hr : Region.ready .any ops L = [] := by
      rw [List.eq_nil_iff_forall_not_mem]
      intro i hi
      have h0 := (mem_ready.1 hi).1
      have hlt : i < L.size := by
        rcases Nat.lt_or_ge i L.size with h' | h'
        · exact h'
        · simp [Array.getElem?_eq_none h'] at h0
      have h1 : 0 < L.toList.countP (! ·) := by
        rw [List.countP_pos_iff]
        exact ⟨L[i], by simp, by simpa [hlt] using h0⟩
      omega
    exact ⟨hr, hd L a w hJ hr⟩
  | succ fuel ih =>
    intro L a w hL hc hJ
    refine ⟨fun hr => hd L a w hJ hr, fun i hi => ?_⟩
    refine wpOp_mono (fun a' w' h' => ih _ a' w' (by simpa using hL) ?_ h') (hs i L a w hJ hi)
    have h0 := (mem_ready.1 hi).1
    have hlt : i < L.size := by
      rcases Nat.lt_or_ge i L.size with h' | h'
      · exact h'
      · simp [Array.getElem?_eq_none h'] at h0
    have hb : L[i] = false := by simpa [hlt] using h0
    have h2 : (L.setIfInBounds i true).toList.countP (! ·) + 1 = L.toList.countP (! ·) := by
      rw [Array.toList_setIfInBounds]
      have e : L.toList = L.toList.take i ++ L[i] :: L.toList.drop (i + 1) := by
        have := List.take_append_drop i L.toList
        rw [List.drop_eq_getElem_cons (by simpa using hlt)] at this
        simpa using this.symm
      have e2 : L.toList.set i true = L.toList.take i ++ true :: L.toList.drop (i + 1) := by
        rw [List.set_eq_take_append_cons_drop, if_pos (by simpa using hlt)]
      rw [e2]
      conv => rhs; rw [e]
      simp [List.countP_append, hb]
      omega
    omega
/-- the rule -/
theorem wp_region_inv {id : Nat} {a : Act} {w : World} (hm : P.follows .mixedOrders = true) (J : Array Bool → Act → World → Prop)
    (h0 : J (Array.replicate ops.size false) a w.drew)
    (hs : ∀ (i : Nat) (L : Array Bool) (a : Act) (w : World), J L a w → i ∈ Region.ready .any ops L → wpOp P ops Q i (J (L.setIfInBounds i true)) a w)
    (hd : ∀ (L : Array Bool) (a : Act) (w : World), J L a w → Region.ready .any ops L = [] → Q .normal a w) : (Code.region id ops true).wp P Q a w :=
  wp_region_any hm (wpAny_inv J hs hd ops.size _ a _ (by simp) (by simp [List.countP_replicate]) h0)
/-- what an operation waits for has come up -/
theorem ready_dep {L : Array Bool} {i : Nat} (hi : i ∈ Region.ready .any ops L) (j : Nat) (hj : ((ops[i]?).map fun o => o.after.any fun e => Region.binds .any e && e.on == j).getD false = true) : L.getD j false = true := by
  obtain ⟨_, o, ho, h⟩ := mem_ready.1 hi
  rw [ho] at hj
  obtain ⟨e, he, hb⟩ := Array.any_eq_true'.1 hj
  simp only [Bool.and_eq_true, beq_iff_eq] at hb
  rw [← hb.2]
  exact h e he hb.1
theorem ready_not' {L : Array Bool} {i : Nat} (hi : i ∈ Region.ready .any ops L) (hL : i < L.size) : L.getD i false = false := by
  have := (mem_ready.1 hi).1
  simpa [hL] using this
theorem ready_lt {L : Array Bool} {i : Nat} (hi : i ∈ Region.ready .any ops L) : i < ops.size := by
  obtain ⟨_, o, ho, _⟩ := mem_ready.1 hi
  exact (Array.getElem?_eq_some_iff.1 ho).1
theorem ready_not {L : Array Bool} {i : Nat} (hi : i ∈ Region.ready .any ops L) : L.getD i true = false := (mem_ready.1 hi).1
theorem wpOp_of {i : Nat} {o : Oper} {K : Act → World → Prop} {a : Act} {w : World} (ho : ops[i]? = some o) (hg : o.guard = none) (h : o.wp P a w K Q) : wpOp P ops Q i K a w := by
  unfold wpOp
  simp only [ho]
  rw [if_pos (by unfold Region.wanted; rw [hg])]
  exact .inl h
/-- a call of a function by its name -/
theorem wp_call_fns {o : Oper} {K : Act → World → Prop} {a : Act} {w : World} {f : FuncId} {xs : Array Operand} {ts : Array TypeId} {vs : Array Value} (ho : o.op = .call { callee := .value (.func f), args := xs, argTypes := ts })
    (hx : xs.map a.eval = vs) (he : Go.Proofs.Enters P f)
    (h : Calls P f vs w fun | .returned v, w'' => K (a.put o.dst v) w'' | .panicked chain, w'' => Q (.panic chain) a w'' | .outgrown, _ => LetsOut Q) : o.wp P a w K Q := by
  unfold Oper.wp execOp
  have he' : (callFunc f vs).run P w = .ok (.enter f vs) w := he _ _
  have hv : a.eval (.func f) = .func (.func f) #[] #[] := rfl
  simp only [ho, resolve, invoke, Sem.run_bind, hx, hv]
  simp [go_sem, he']
  exact h
theorem wp_call_fn {o : Oper} {K : Act → World → Prop} {a : Act} {w : World} {f : FuncId} {x y : Operand} {ts : Array TypeId} {v1 v2 : Value} (ho : o.op = .call { callee := .value (.func f), args := #[x, y], argTypes := ts })
    (hx : a.eval x = v1) (hy : a.eval y = v2) (he : Go.Proofs.Enters P f)
    (h : Calls P f #[v1, v2] w fun | .returned v, w'' => K (a.put o.dst v) w'' | .panicked chain, w'' => Q (.panic chain) a w'' | .outgrown, _ => LetsOut Q) : o.wp P a w K Q :=
  wp_call_fns ho (by simp [hx, hy]) he h
/-- an operation that yields a value and leaves the world -/
theorem wpOp_val {i : Nat} {o : Oper} {K : Act → World → Prop} {a : Act} {w : World} (v : Value) (ho : ops[i]? = some o) (hw : Region.wanted o (yielded ops a.tmps) = true) (hv : (execOp a.eval o).run P w = .ok (.value v) w)
    (h : K (a.put o.dst v) w) : wpOp P ops Q i K a w := by
  unfold wpOp
  simp only [ho]
  rw [if_pos hw]
  unfold Oper.wp
  rw [hv]
  exact .inl h
theorem wpOp_wp {i : Nat} {o : Oper} {K : Act → World → Prop} {a : Act} {w : World} (ho : ops[i]? = some o) (hw : Region.wanted o (yielded ops a.tmps) = true) (h : o.wp P a w K Q) : wpOp P ops Q i K a w := by
  unfold wpOp
  simp only [ho]
  rw [if_pos hw]
  exact .inl h
/-- an operation whose guard says no -/
theorem wpOp_skip {i : Nat} {o : Oper} {K : Act → World → Prop} {a : Act} {w : World} (ho : ops[i]? = some o) (hw : Region.wanted o (yielded ops a.tmps) = false) (h : K (a.put o.dst undef) w) : wpOp P ops Q i K a w := by
  unfold wpOp
  simp only [ho]
  rw [if_neg (by rw [hw]; decide)]
  exact h
theorem set_same {L : Array Bool} {i : Nat} (h : i < L.size) : (L.setIfInBounds i true).getD i false = true := by simp [h]
theorem set_other {L : Array Bool} {i j : Nat} (h : i ≠ j) : (L.setIfInBounds i true).getD j false = L.getD j false := by simp [Array.getElem?_setIfInBounds_ne h]
/-- all have come up -/
theorem all_listed {L : Array Bool} (hL : L.size = ops.size) (hacyc : (List.range ops.size).all (fun i => ((ops[i]?).map fun o => o.after.all fun e => !Region.binds .any e || e.on < i).getD true) = true)
    (hr : Region.ready .any ops L = []) : ∀ i, i < ops.size → L.getD i false = true := by
  intro i
  induction i using Nat.strongRecOn with
  | _ i ih =>
    intro hi
    have hil : i < L.size := by omega
    cases hb : L[i] with
    | true => simp [hil, hb]
    | false =>
      exfalso
      have hmem : i ∈ Region.ready .any ops L := by
        rw [mem_ready]
        refine ⟨by simp [hil, hb], ops[i], Array.getElem?_eq_getElem hi, fun e he hbnd => ?_⟩
        have h1 := List.all_eq_true.1 hacyc i (by simpa using hi)
        rw [Array.getElem?_eq_getElem hi] at h1
        simp only [Option.map_some, Option.getD_some] at h1
        have h2 := Array.all_eq_true_iff_forall_mem.1 h1 e he
        simp only [hbnd, Bool.not_true, Bool.false_or, decide_eq_true_eq] at h2
        exact ih e.on h2 (by omega)
      rw [hr] at hmem
      cases hmem
end
end Go
