/-
  WHAT IS GENERIC, of PzA: mathematics, memory, loops, regions. (Written by gen/base_cut.py.)
-/
import Derived.RowKit3
import Derived.Test.YtehoaenkkmmobaaRows
import Derived.WalkKit
import Derived.WalkSpells
import Derived.WalkLawsBesides
import Derived.Lib.Hide
import Derived.Deep.QuietTactic
import Derived.BigQuiet
import Derived.Laws.CopyOwn
import Derived.Deep.DeepMust
import Derived.Orders
import Derived.Shelf.Abstract
import Derived.BigRegion
import Derived.RangeFuncBound
import Derived.RangeFuncNested
import Derived.RangeFuncCalls
import Derived.RangeFuncLeaves
import Derived.Shelf.RegionOpen
import Derived.OwnWalkIn
import Derived.TacticsInMore
import Derived.LoopNIn
import Derived.LoopIn
import Derived.OrdersIn
import Derived.Sort.CutIn
import Derived.Deep.OwnRows
import Derived.ProofKit
import Derived.OpenShut
import Derived.Lib.SmallJoins
import Derived.Deep.Fields
namespace Go.Proofs.Ytehoaenkkmmobaa
/-- the element k, 0 beyond the end -/
def nth (xs : List Int) (k : Nat) : Int := xs[k]?.getD 0
theorem nth_lt {xs : List Int} {k : Nat} (h : k < xs.length) : nth xs k = xs[k] := by simp [nth, h]
/-- how many of the first k wheels show s -/
def cnt (c : List Int) (s : Int) : Nat → Int
  | 0 => 0
  | k + 1 => cnt c s k + if nth c k = s then 1 else 0
def rgt (c g : List Int) : Nat → Int
  | 0 => 0
  | k + 1 => rgt c g k + if nth c k = nth g k then 1 else 0
/-- symbols in common, of the first s symbols, at W wheels -/
def com (c g : List Int) (W : Nat) : Nat → Int
  | 0 => 0
  | s + 1 => com c g W s + min (cnt c s W) (cnt g s W)
def both (c g : List Int) (s : Int) : Nat → Int
  | 0 => 0
  | k + 1 => both c g s k + if nth c k = s ∧ nth g k = s then 1 else 0
def sum (f : Nat → Int) : Nat → Int
  | 0 => 0
  | n + 1 => sum f n + f n
theorem sum_le {f g : Nat → Int} (n : Nat) (h : ∀ i, i < n → f i ≤ g i) : sum f n ≤ sum g n := by
  induction n with
  | zero => exact Int.le_refl _
  | succ n ih => simp only [sum]; have := ih (fun i hi => h i (by omega)); have := h n (by omega); omega
theorem sum_congr {f g : Nat → Int} (n : Nat) (h : ∀ i, i < n → f i = g i) : sum f n = sum g n := by
  induction n with
  | zero => rfl
  | succ n ih => simp only [sum]; rw [ih (fun i hi => h i (by omega)), h n (by omega)]
theorem sum_add (f g : Nat → Int) (n : Nat) : sum (fun i => f i + g i) n = sum f n + sum g n := by
  induction n with
  | zero => rfl
  | succ n ih => simp only [sum]; rw [ih]; omega
theorem sum_zero (n : Nat) : sum (fun _ => 0) n = 0 := by
  induction n with
  | zero => rfl
  | succ n ih => simp only [sum]; omega
/-- one symbol counts once -/
theorem sum_ind (x : Int) (n : Nat) (h0 : 0 ≤ x) : sum (fun s => if x = (s : Int) then 1 else 0) n = if x < n then 1 else 0 := by
  induction n with
  | zero => simp [sum]; omega
  | succ n ih =>
    simp only [sum]; rw [ih]
    split <;> split <;> split <;> omega
theorem com_sum (c g : List Int) (W n : Nat) : com c g W n = sum (fun s => min (cnt c s W) (cnt g s W)) n := by
  induction n with
  | zero => rfl
  | succ n ih => simp only [com, sum]; rw [ih]
theorem cnt_bounds (c : List Int) (s : Int) (k : Nat) : 0 ≤ cnt c s k ∧ cnt c s k ≤ k := by
  induction k with
  | zero => simp [cnt]
  | succ k ih => simp only [cnt]; split <;> omega
theorem rgt_bounds (c g : List Int) (k : Nat) : 0 ≤ rgt c g k ∧ rgt c g k ≤ k := by
  induction k with
  | zero => simp [rgt]
  | succ k ih => simp only [rgt]; split <;> omega
theorem com_nonneg (c g : List Int) (W n : Nat) : 0 ≤ com c g W n := by
  induction n with
  | zero => simp [com]
  | succ n ih => simp only [com]; have := cnt_bounds c n W; have := cnt_bounds g n W; omega
/-- symbols from 0 to 9 -/
def Sym (c : List Int) (W : Nat) : Prop := ∀ i, i < W → 0 ≤ nth c i ∧ nth c i ≤ 9
theorem sum_cnt (c : List Int) (W : Nat) (h : Sym c W) : sum (fun s => cnt c s W) 10 = W := by
  induction W with
  | zero => exact sum_zero 10
  | succ k ih =>
    have h1 := ih (fun i hi => h i (by omega))
    have h2 := h k (by omega)
    simp only [cnt]
    rw [sum_add, h1, sum_ind _ _ h2.1, if_pos (by omega)]
    omega
theorem both_le (c g : List Int) (s : Int) (k : Nat) : both c g s k ≤ cnt c s k ∧ both c g s k ≤ cnt g s k := by
  induction k with
  | zero => simp [both, cnt]
  | succ k ih =>
    simp only [both, cnt]
    split <;> split <;> split <;> simp_all <;> omega
theorem sum_both (c g : List Int) (W : Nat) (h : Sym c W) : sum (fun s => both c g s W) 10 = rgt c g W := by
  induction W with
  | zero => exact sum_zero 10
  | succ k ih =>
    have h1 := ih (fun i hi => h i (by omega))
    have h2 := h k (by omega)
    simp only [both, rgt]
    rw [sum_add, h1]
    congr 1
    by_cases e : nth c k = nth g k
    · rw [if_pos e, ← e]
      simp only [and_self]
      rw [sum_ind _ _ h2.1, if_pos (by omega)]
    · rw [if_neg e]
      rw [sum_congr (g := fun _ => 0) 10 (fun i _ => if_neg (fun ⟨a, b⟩ => e (a.trans b.symm)))]
      exact sum_zero 10
theorem rgt_le_com (c g : List Int) (W : Nat) (h : Sym c W) : rgt c g W ≤ com c g W 10 := by
  rw [com_sum, ← sum_both c g W h]
  exact sum_le 10 fun i _ => by have := both_le c g i W; omega
theorem com_le (c g : List Int) (W : Nat) (h : Sym c W) : com c g W 10 ≤ W := by
  rw [com_sum]
  have := sum_cnt c W h
  have := sum_le (f := fun s : Nat => min (cnt c s W) (cnt g s W)) (g := fun s : Nat => cnt c s W) 10 (fun i _ => by omega)
  omega
theorem com_self (c : List Int) (W : Nat) (h : Sym c W) : com c c W 10 = W := by
  rw [com_sum, ← sum_cnt c W h]
  exact sum_congr 10 fun i _ => by omega
theorem com_symm (c g : List Int) (W n : Nat) : com c g W n = com g c W n := by
  rw [com_sum, com_sum]
  exact sum_congr n fun i _ => by omega
theorem rgt_symm (c g : List Int) (W : Nat) : rgt c g W = rgt g c W := by
  induction W with
  | zero => rfl
  | succ k ih => simp only [rgt]; rw [ih]; simp [eq_comm]
theorem rgt_self (c : List Int) (W : Nat) : rgt c c W = W := by
  induction W with
  | zero => rfl
  | succ k ih => simp only [rgt]; rw [ih]; simp
theorem rgt_full (c g : List Int) (W : Nat) : rgt c g W = W ↔ ∀ i, i < W → nth c i = nth g i := by
  induction W with
  | zero => simp [rgt]
  | succ k ih =>
    have hb := rgt_bounds c g k
    simp only [rgt]
    constructor
    · intro h
      split at h
      · rename_i e
        have h' : rgt c g k = k := by omega
        intro i hi
        rcases Nat.lt_succ_iff_lt_or_eq.1 hi with h1 | rfl
        · exact ih.1 h' i h1
        · exact e
      · omega
    · intro h
      rw [if_pos (h k (by omega)), ih.2 (fun i hi => h i (by omega))]
      omega
/-- the digits of n, w of them, base s, the most significant first -/
def dig (s : Nat) : Nat → Nat → List Int
  | 0, _ => []
  | w + 1, n => dig s w (n / s) ++ [((n % s : Nat) : Int)]
theorem dig_length (s w n : Nat) : (dig s w n).length = w := by
  induction w generalizing n with
  | zero => rfl
  | succ w ih => simp [dig, ih]
theorem dig_bounds {s : Nat} (hs : 0 < s) (w n : Nat) : ∀ d ∈ dig s w n, 0 ≤ d ∧ d < s := by
  induction w generalizing n with
  | zero => simp [dig]
  | succ w ih =>
    intro d hd
    simp only [dig, List.mem_append, List.mem_singleton] at hd
    rcases hd with hd | rfl
    · exact ih _ _ hd
    · have := Nat.mod_lt n hs; omega
/-- the code behind a code: the last digit that is not the greatest is one more, and those behind it are 0 -/
theorem dig_inj {s : Nat} (w n m : Nat) (hn : n < s ^ w) (hm : m < s ^ w) (h : dig s w n = dig s w m) : n = m := by
  induction w generalizing n m with
  | zero => simp at hn hm; omega
  | succ w ih =>
    simp only [dig] at h
    have h1 := List.append_inj h (by simp [dig_length])
    have hd : n / s = m / s := ih _ _ (by rw [Nat.pow_succ] at hn; exact Nat.div_lt_of_lt_mul (by rw [Nat.mul_comm]; exact hn)) (by rw [Nat.pow_succ] at hm; exact Nat.div_lt_of_lt_mul (by rw [Nat.mul_comm]; exact hm)) h1.1
    have hr : n % s = m % s := by
      have := List.singleton_inj.1 h1.2
      omega
    rw [← Nat.div_add_mod n s, ← Nat.div_add_mod m s, hd, hr]
/-- every list of digits is one -/
theorem dig_surj {s : Nat} (w : Nat) (l : List Int) (hl : l.length = w) (hd : ∀ d ∈ l, 0 ≤ d ∧ d < s) : ∃ n, n < s ^ w ∧ dig s w n = l := by
  induction w generalizing l with
  | zero => exact ⟨0, by simp, (List.eq_nil_of_length_eq_zero hl).symm⟩
  | succ w ih =>
    have hne : l ≠ [] := by intro e; subst e; simp at hl
    have hl' : l = l.dropLast ++ [l.getLast hne] := (List.dropLast_concat_getLast hne).symm
    obtain ⟨n, hn, he⟩ := ih l.dropLast (by simp [hl]) (fun d h => hd d (List.dropLast_subset _ h))
    have hb := hd (l.getLast hne) (List.getLast_mem hne)
    have hs : 0 < s := by omega
    refine ⟨n * s + (l.getLast hne).toNat, ?_, ?_⟩
    · have h1 : (l.getLast hne).toNat < s := by omega
      have h2 : (n + 1) * s ≤ s ^ w * s := Nat.mul_le_mul_right s hn
      rw [Nat.add_mul, Nat.one_mul] at h2
      rw [Nat.pow_succ]
      omega
    · simp only [dig]
      have e1 : (n * s + (l.getLast hne).toNat) / s = n := by
        rw [Nat.mul_comm, Nat.mul_add_div hs, Nat.div_eq_of_lt (by omega)]; omega
      have e2 : (n * s + (l.getLast hne).toNat) % s = (l.getLast hne).toNat := by
        rw [Nat.mul_comm, Nat.mul_add_mod, Nat.mod_eq_of_lt (by omega)]
      rw [e1, e2, he]
      conv => rhs; rw [hl']
      congr 2
      omega
/-- the order of codes -/
def Lt (a b : List Int) (k : Nat) : Prop := ∃ i, i < k ∧ (∀ j, j < i → a[j]?.getD 0 = b[j]?.getD 0) ∧ a[i]?.getD 0 < b[i]?.getD 0
theorem dig_lt {s : Nat} (w n m : Nat) (h : n < m) (hm : m < s ^ w) : Lt (dig s w n) (dig s w m) w := by
  induction w generalizing n m with
  | zero => simp at hm; omega
  | succ w ih =>
    have hm' : m / s < s ^ w := by rw [Nat.pow_succ] at hm; exact Nat.div_lt_of_lt_mul (by rw [Nat.mul_comm]; exact hm)
    rcases Nat.lt_or_ge (n / s) (m / s) with hlt | hge
    · obtain ⟨i, hi, hj, hx⟩ := ih _ _ hlt hm'
      refine ⟨i, by omega, fun j hji => ?_, ?_⟩
      · simp only [dig]
        rw [List.getElem?_append_left (by rw [dig_length]; omega), List.getElem?_append_left (by rw [dig_length]; omega)]
        exact hj j hji
      · simp only [dig]
        rw [List.getElem?_append_left (by rw [dig_length]; omega), List.getElem?_append_left (by rw [dig_length]; omega)]
        exact hx
    · have he : n / s = m / s := Nat.le_antisymm (Nat.div_le_div_right (Nat.le_of_lt h)) hge
      have hr : n % s < m % s := by
        have h1 := Nat.div_add_mod n s
        have h2 := Nat.div_add_mod m s
        rw [he] at h1
        omega
      refine ⟨w, by omega, fun j hj => ?_, ?_⟩
      · simp only [dig]; rw [he]
        rw [List.getElem?_append_left (by rw [dig_length]; omega), List.getElem?_append_left (by rw [dig_length]; omega)]
      · simp only [dig]
        rw [List.getElem?_append_right (by rw [dig_length]; omega), List.getElem?_append_right (by rw [dig_length]; omega)]
        simp [dig_length]
        exact_mod_cast hr
/-- n + 1, in digits: below wheel k all are 0 in the next, and the greatest in this one -/
theorem dig_succ {s : Nat} (hs : 1 < s) (w n : Nat) (hn : n + 1 < s ^ w) : ∃ k, k < w ∧ (∀ j, j < k → (dig s w (n + 1))[j]?.getD 0 = (dig s w n)[j]?.getD 0) ∧
    (dig s w (n + 1))[k]?.getD 0 = (dig s w n)[k]?.getD 0 + 1 ∧ (dig s w n)[k]?.getD 0 + 1 < s ∧ ∀ j, k < j → j < w → (dig s w n)[j]?.getD 0 + 1 = s ∧ (dig s w (n + 1))[j]?.getD 0 = 0 := by
  induction w generalizing n with
  | zero => simp at hn
  | succ w ih =>
    by_cases hr : n % s + 1 < s
    · have hd : (n + 1) / s = n / s := by
        rw [← Nat.div_add_mod n s, Nat.add_assoc, Nat.mul_add_div (by omega), Nat.div_eq_of_lt hr, Nat.mul_add_div (by omega), Nat.div_eq_of_lt (Nat.mod_lt n (by omega))]
      have hm : (n + 1) % s = n % s + 1 := by
        rw [← Nat.div_add_mod n s, Nat.add_assoc, Nat.mul_add_mod, Nat.mod_eq_of_lt hr, Nat.mul_add_mod, Nat.mod_mod]
      refine ⟨w, by omega, fun j hj => ?_, ?_, ?_, fun j h1 h2 => by omega⟩
      · simp only [dig]; rw [hd]
        rw [List.getElem?_append_left (by rw [dig_length]; omega), List.getElem?_append_left (by rw [dig_length]; omega)]
      · simp only [dig]; rw [hm]
        rw [List.getElem?_append_right (by rw [dig_length]; omega), List.getElem?_append_right (by rw [dig_length]; omega)]
        simp [dig_length]
      · simp only [dig]
        rw [List.getElem?_append_right (by rw [dig_length]; omega)]
        simp [dig_length]
        omega
    · have hlt := Nat.mod_lt n (show 0 < s by omega)
      have hr' : n % s = s - 1 := by omega
      have e : n + 1 = s * (n / s + 1) := by
        have h1 := Nat.div_add_mod n s
        rw [Nat.mul_add, Nat.mul_one]
        omega
      have hd : (n + 1) / s = n / s + 1 := by rw [e, Nat.mul_div_cancel_left _ (by omega)]
      have hm : (n + 1) % s = 0 := by rw [e, Nat.mul_mod_right]
      have hn' : n / s + 1 < s ^ w := by
        rw [← hd]; rw [Nat.pow_succ] at hn; exact Nat.div_lt_of_lt_mul (by rw [Nat.mul_comm]; exact hn)
      obtain ⟨k, hk, h1, h2, h3, h4⟩ := ih (n / s) hn'
      have L : ∀ (x : Nat) (j : Nat), j < w → (dig s (w + 1) x)[j]?.getD 0 = (dig s w (x / s))[j]?.getD 0 := fun x j hj => by
        simp only [dig]; rw [List.getElem?_append_left (by rw [dig_length]; omega)]
      have R : ∀ (x : Nat), (dig s (w + 1) x)[w]?.getD 0 = ((x % s : Nat) : Int) := fun x => by
        simp only [dig]; rw [List.getElem?_append_right (by rw [dig_length]; omega)]; simp [dig_length]
      refine ⟨k, by omega, fun j hj => ?_, ?_, ?_, fun j hj1 hj2 => ?_⟩
      · rw [L _ _ (by omega), L _ _ (by omega), hd]; exact h1 j hj
      · rw [L _ _ (by omega), L _ _ (by omega), hd]; exact h2
      · rw [L _ _ (by omega)]; exact h3
      · rcases Nat.lt_or_ge j w with hj | hj
        · rw [L _ _ (by omega), L _ _ (by omega), hd]; exact h4 j hj1 hj
        · obtain rfl : j = w := by omega
          rw [R, R, hr', hm]
          omega
/-- the last code has the greatest digits alone -/
theorem dig_last {s : Nat} (hs : 1 < s) (w n : Nat) (hn : n + 1 = s ^ w) : ∀ j, j < w → (dig s w n)[j]?.getD 0 + 1 = s := by
  induction w generalizing n with
  | zero => intro j hj; omega
  | succ w ih =>
    have hp : 0 < s ^ w := Nat.pow_pos (by omega)
    have e : n = s * (s ^ w - 1) + (s - 1) := by
      rw [Nat.pow_succ, Nat.mul_comm] at hn
      rw [Nat.mul_sub_one]
      have : s ≤ s * s ^ w := Nat.le_mul_of_pos_right s hp
      omega
    have hd : n / s = s ^ w - 1 := by rw [e, Nat.mul_add_div (by omega), Nat.div_eq_of_lt (by omega)]; omega
    have hm : n % s = s - 1 := by rw [e, Nat.mul_add_mod, Nat.mod_eq_of_lt (by omega)]
    intro j hj
    simp only [dig]
    rcases Nat.lt_or_ge j w with h | h
    · rw [List.getElem?_append_left (by rw [dig_length]; omega), hd]
      exact ih _ (by omega) j h
    · obtain rfl : j = w := by omega
      rw [List.getElem?_append_right (by rw [dig_length]; omega), hm]
      simp [dig_length]
      omega
theorem dig_zero (s w : Nat) : ∀ j : Nat, (dig s w 0)[j]?.getD 0 = 0 := by
  induction w with
  | zero => simp [dig]
  | succ w ih =>
    intro j
    simp only [dig]
    rw [Nat.zero_div]
    rcases Nat.lt_or_ge j w with h | h
    · rw [List.getElem?_append_left (by rw [dig_length]; omega)]; exact ih j
    · rw [List.getElem?_append_right (by rw [dig_length]; omega)]
      rcases Nat.eq_zero_or_pos (j - (dig s w 0).length) with h0 | h0
      · rw [h0]; simp
      · rw [List.getElem?_eq_none (by simp; omega)]; rfl
end Go.Proofs.Ytehoaenkkmmobaa
namespace Go.Proofs.Ytehoaenkkmmobaa
open Go.RowKit
def wi (n lo hi : Int) : Bool := decide (lo ≤ n) && decide (n ≤ hi)
abbrev I (n : Int) : Value := .int .i64 n
theorem ret_bool {a b : Bool} (h : a = b) : Ending.returned (.bool a) = .returned (.bool b) := by rw [h]
theorem ret_int {a b : Int} (h : a = b) : Ending.returned (.int .i64 a) = .returned (.int .i64 b) := by rw [h]
set_option maxHeartbeats 400000 in
theorem within_any (n lo hi : Int) (w : World) :
    Calls Try.prog 55 #[.int .i64 n, .int .i64 lo, .int .i64 hi] w fun e w' => e = .returned (.bool (wi n lo hi)) ∧ w = w' := by
  by_cases h : lo ≤ n
  all_goals
    go_enter Try.func55, Try.ntmps55
    go_wp2
    go_ret
    exact ⟨ret_bool (by simp [wi]; omega), rfl⟩
end Go.Proofs.Ytehoaenkkmmobaa
namespace Go.Proofs.Ytehoaenkkmmobaa
open Go.RowKit
theorem block_of_add (a : Addr) (n : Nat) : (a.add n).block = a.block := by unfold Addr.add; split <;> rfl
theorem add_of_add (a : Addr) (i j : Nat) : (a.add i).add j = a.add (i + j) := by
  unfold Addr.add
  by_cases hi : i = 0 <;> by_cases hj : j = 0 <;> simp [hi, hj, Nat.add_assoc]
/-- the cells of xs lie at A, below block B -/
def IntsR (w : World) (B : Nat) (A : Option Addr) (xs : List Int) : Prop :=
  0 < xs.length → ∃ ad, A = some ad ∧ ad.block < B ∧ ∀ j, j < xs.length → w.cell? (ad.add j) = some (.int .i64 (nth xs j))
theorem IntsR.at_ {w : World} {B : Nat} {A : Option Addr} {xs : List Int} (h : IntsR w B A xs) {k : Nat} (hk : k < xs.length) : ∃ ad, A = some ad ∧ ad.block < B ∧ w.cell? (ad.add k) = some (.int .i64 (nth xs k)) := by
  obtain ⟨ad, e, hb, hc⟩ := h (by omega)
  exact ⟨ad, e, hb, hc k hk⟩
theorem IntsR.below {w w' : World} {B B' : Nat} {A : Option Addr} {xs : List Int} (h : IntsR w B A xs) (hb : Below B' w w') (hB : B ≤ B') : IntsR w' B A xs := fun h0 => by
  obtain ⟨ad, e, hl, hc⟩ := h h0
  exact ⟨ad, e, hl, fun j hj => (hb.cell (by rw [block_of_add]; omega)).trans (hc j hj)⟩
theorem IntsR.more {w : World} {B B' : Nat} {A : Option Addr} {xs : List Int} (h : IntsR w B A xs) (hB : B ≤ B') : IntsR w B' A xs := fun h0 => by
  obtain ⟨ad, e, hl, hc⟩ := h h0
  exact ⟨ad, e, by omega, hc⟩
theorem IntsR.nil {w : World} {B : Nat} {A : Option Addr} : IntsR w B A [] := fun h => absurd h (by simp)
theorem alloc_cell (w : World) (cs : Array Value) (t : TypeId) (i : Nat) : (w.alloc (.cells cs t)).cell? ⟨w.heap.size, i, none⟩ = cs[i]? := by
  exact cell_of_row _ w.heap.size i cs t (0, 0) (heap_alloc_new w _)
/-- a cell of a box of the call's own, later -/
theorem box_later {w wr : World} {cs : Array Value} {t : TypeId} {B : Nat} (h : Below B (w.alloc (.cells cs t)) wr) (hB : w.heap.size < B) (i : Nat) : wr.cell? ⟨w.heap.size, i, none⟩ = cs[i]? :=
  (h.cell (p := ⟨w.heap.size, i, none⟩) hB).trans (alloc_cell w cs t i)
/-- whatever stood in w1 stands in w' as it was: what is held of the world in a region that draws its order -/
def KeptS (w1 w' : World) : Prop := Below w1.heap.size w1 w' ∧ (∀ b o, b < w1.heap.size → w'.cell? ⟨b, o, none⟩ = w1.cell? ⟨b, o, none⟩)
theorem keptS_of {w1 w' : World} (h : Below w1.heap.size w1 w') : KeptS w1 w' := ⟨h, fun b o hb => h.cell (p := ⟨b, o, none⟩) hb⟩
theorem keptS_drew (w1 : World) : KeptS w1 w1.drew := keptS_of (Below.refl _ _).drew
theorem keptS_call {w1 w' w2 : World} (h : KeptS w1 w') (hb : Below w'.heap.size w' w2) : KeptS w1 w2 := keptS_of (h.1.trans (hb.mono h.1.size))
theorem keptS_alloc {w1 w' : World} (h : KeptS w1 w') (o : Obj) : KeptS w1 (w'.alloc o) := keptS_of (h.1.alloc h.1.size o)
theorem keptS_set {w1 w' : World} (h : KeptS w1 w') {p : Addr} (hp : w1.heap.size ≤ p.block) (v : Value) : KeptS w1 (w'.setCell p v) := keptS_of (h.1.setCell hp v)
theorem beq_dec (a b : Int) : (a == b) = decide (a = b) := by by_cases h : a = b <;> simp [h]
theorem all_take_snoc (p : Int → Bool) (xs : List Int) (k : Nat) (hk : k < xs.length) (h : (xs.take k).all p = true) (hp : p (nth xs k) = true) : (xs.take (k + 1)).all p = true := by
  rw [List.take_succ_eq_append_getElem hk, List.all_append, h]
  rw [nth_lt hk] at hp
  simpa using hp
theorem not_all (p : Int → Bool) (xs : List Int) (k : Nat) (hk : k < xs.length) (hp : p (nth xs k) = false) : xs.all p = false := by
  rw [nth_lt hk] at hp
  rw [List.all_eq_false]
  exact ⟨_, List.getElem_mem hk, by simpa using hp⟩
def inB (lo hi : Int) (xs : List Int) : Bool := xs.all fun s => wi s lo hi
set_option maxHeartbeats 400000 in
theorem allWithin_any (lo hi : Int) (A : Option Addr) (c : Nat) (xs : List Int) (w : World) (hx : IntsR w w.heap.size A xs) (hl : xs.length ≤ maxLen) :
    Calls Try.prog 96 #[.slice A xs.length c, .int .i64 lo, .int .i64 hi] w fun e w' => e = .returned (.bool (inB lo hi xs)) ∧ Below w.heap.size w w' := by
  unfold maxLen at hl
  go_enter Try.func96, Try.ntmps96
  go_wp2
  go_loopw [11] (fun i wr => ∃ k : Nat, k ≤ xs.length ∧ i = .int .i64 k ∧ (xs.take k).all (fun s => wi s lo hi) = true ∧ Below w.heap.size w wr) (fun i _ => xs.length - (intOf i).toNat)
  case atStart => exact ⟨0, Nat.zero_le _, rfl, rfl, Below.refl _ _⟩
  case round =>
    obtain ⟨k, hk, rfl, hall, hbw⟩ := hrel
    have hx' := hx.below hbw (Nat.le_refl _)
    clear hx
    by_cases hlt : k < xs.length
    · obtain ⟨ad, rfl, hb, hc⟩ := hx'.at_ hlt
      have HA := Lib.hid hall
      clear hall
      cases hp : wi (nth xs k) lo hi
      · have h2 : inB lo hi xs = false := not_all (fun s => wi s lo hi) xs k hlt hp
        have H2 := Lib.hid h2
        clear h2
        go_wp2_with (go_at_call 55; refine (within_any _ _ _ _).mono ?_; rintro e w' ⟨rfl, rfl⟩)
        go_ret
        exact ⟨ret_bool H2.out.symm, hbw⟩
      · go_wp2_with (go_at_call 55; refine (within_any _ _ _ _).mono ?_; rintro e w' ⟨rfl, rfl⟩)
        go_roundw
        case rel => exact ⟨k + 1, by omega, by go_num, all_take_snoc _ xs k hlt HA.out hp, hbw⟩
        case measure => simp [intOf]; omega
    · obtain rfl : k = xs.length := by omega
      rw [List.take_length] at hall
      have HA := Lib.hid hall
      clear hall
      go_wp2
      go_ret
      exact ⟨ret_bool HA.out.symm, hbw⟩
end Go.Proofs.Ytehoaenkkmmobaa
namespace Go.Proofs.Ytehoaenkkmmobaa
open Go.RowKit
def rowCells (c : List Int) : List Value := [I (nth c 0), I (nth c 1), I (nth c 2), I (nth c 3)]
abbrev rowV (c : List Int) : Value := .agg #[I (nth c 0), I (nth c 1), I (nth c 2), I (nth c 3)]
theorem splice_row (xs : List Int) (h : xs.length ≤ 4) : splice [I 0, I 0, I 0, I 0] 0 (xs.map I) = rowCells xs := by
  match xs, h with
  | [], _ => rfl
  | [_], _ => rfl
  | [_, _], _ => rfl
  | [_, _, _], _ => rfl
  | [_, _, _, _], _ => rfl
theorem size_two (w : World) (a b : Obj) : ((w.alloc a).alloc b).heap[w.heap.size + 1]? = some b := by
  have := heap_alloc_new (w.alloc a) b
  rwa [World.size_alloc] at this
theorem min_len (n : Nat) (h : n ≤ 4) : n = Nat.min n 4 := (Nat.min_eq_left h).symm
theorem src_cells {w w' : World} {A : Option Addr} {xs : List Int} (hx : IntsR w w.heap.size A xs) (hb : Below w.heap.size w w') (h0 : 0 < (xs.map I).length) :
    ∃ ad, A = some ad ∧ ∀ j v, (xs.map I)[j]? = some v → w'.cell? (ad.add j) = some v := by
  obtain ⟨ad, e, hl, hc⟩ := hx (by simpa using h0)
  refine ⟨ad, e, fun j v hv => ?_⟩
  have hj : j < xs.length := by
    have := (List.getElem?_eq_some_iff.1 hv).1
    simpa using this
  rw [hb.cell (p := ad.add j) (by rw [block_of_add]; exact hl), hc j hj, ← hv, nth_lt hj]
  simp [hj]
theorem alloc_obj (w : World) (o : Obj) (g : Nat) (hg : g = w.heap.size) : (w.alloc o).heap[g]? = some o := by subst hg; exact heap_alloc_new w o
theorem alloc_cell' (w : World) (cs : Array Value) (t : TypeId) (g i : Nat) (hg : g = w.heap.size) : (w.alloc (.cells cs t)).cell? ⟨g, i, none⟩ = cs[i]? := by subst hg; exact alloc_cell w cs t i
theorem frozen_of_row {w : World} {g : Nat} {cs : Array Value} {t : TypeId} (h : w.heap[g]? = some (.cells cs t (0, 0))) (i : Nat) : w.frozen? ⟨g, i, none⟩ = false := by
  simp [World.frozen?, h]
theorem row_set {w : World} {g : Nat} {cs : Array Value} {t : TypeId} (h : w.heap[g]? = some (.cells cs t (0, 0))) (i : Nat) (u : Value) : (w.setCell ⟨g, i, none⟩ u).heap[g]? = some (.cells (cs.setIfInBounds i u) t (0, 0)) := by
  simp [World.setCell, Array.getElem?_modify, h]
theorem rowCells_at (c : List Int) (k : Nat) (h : k < 4) : #[I (nth c 0), I (nth c 1), I (nth c 2), I (nth c 3)][k]? = some (I (nth c k)) := by
  match k, h with
  | 0, _ => rfl
  | 1, _ => rfl
  | 2, _ => rfl
  | 3, _ => rfl
end Go.Proofs.Ytehoaenkkmmobaa
namespace Go
section
variable {P : Program} {ops : Array Oper} {Q : Exit → Act → World → Prop}
theorem wpAny_inv (J : Array Bool → Act → World → Prop)
    (hs : ∀ (i : Nat) (L : Array Bool) (a : Act) (w : World), J L a w → i ∈ Region.ready .any ops L → wpOp P ops Q i (J (L.setIfInBounds i true)) a w)
    (hd : ∀ (L : Array Bool) (a : Act) (w : World), J L a w → Region.ready .any ops L = [] → Q .normal a w) :
    ∀ (fuel : Nat) (L : Array Bool) (a : Act) (w : World), L.size = ops.size → (L.toList.countP (! ·)) ≤ fuel → J L a w → wpAny P .any ops Q fuel L a w := by
  intro fuel
  induction fuel with
  | zero =>
    intro L a w hL hc hJ
    have hr : Region.ready .any ops L = [] := by
      rw [List.eq_nil_iff_forall_not_mem]
      intro i hi
      have h0 := (mem_ready.1 hi).1
      have hlt : i < L.size := by
        rcases Nat.lt_or_ge i L.size with h' | h'
        · exact h'
        · simp [Array.getElem?_eq_none h'] at h0
      have h1 : 0 < L.toList.countP (! ·) := by
        rw [List.countP_pos_iff]
        exact ⟨L[i], by simp, by simpa [hlt] using h0⟩
      omega
    exact ⟨hr, hd L a w hJ hr⟩
  | succ fuel ih =>
    intro L a w hL hc hJ
    refine ⟨fun hr => hd L a w hJ hr, fun i hi => ?_⟩
    refine wpOp_mono (fun a' w' h' => ih _ a' w' (by simpa using hL) ?_ h') (hs i L a w hJ hi)
    have h0 := (mem_ready.1 hi).1
    have hlt : i < L.size := by
      rcases Nat.lt_or_ge i L.size with h' | h'
      · exact h'
      · simp [Array.getElem?_eq_none h'] at h0
    have hb : L[i] = false := by simpa [hlt] using h0
    have h2 : (L.setIfInBounds i true).toList.countP (! ·) + 1 = L.toList.countP (! ·) := by
      rw [Array.toList_setIfInBounds]
      have e : L.toList = L.toList.take i ++ L[i] :: L.toList.drop (i + 1) := by
        have := List.take_append_drop i L.toList
        rw [List.drop_eq_getElem_cons (by simpa using hlt)] at this
        simpa using this.symm
      have e2 : L.toList.set i true = L.toList.take i ++ true :: L.toList.drop (i + 1) := by
        rw [List.set_eq_take_append_cons_drop, if_pos (by simpa using hlt)]
      rw [e2]
      conv => rhs; rw [e]
      simp [List.countP_append, hb]
      omega
    omega
/-- the rule -/
theorem wp_region_inv {id : Nat} {a : Act} {w : World} (hm : P.follows .mixedOrders = true) (J : Array Bool → Act → World → Prop)
    (h0 : J (Array.replicate ops.size false) a w.drew)
    (hs : ∀ (i : Nat) (L : Array Bool) (a : Act) (w : World), J L a w → i ∈ Region.ready .any ops L → wpOp P ops Q i (J (L.setIfInBounds i true)) a w)
    (hd : ∀ (L : Array Bool) (a : Act) (w : World), J L a w → Region.ready .any ops L = [] → Q .normal a w) : (Code.region id ops true).wp P Q a w :=
  wp_region_any hm (wpAny_inv J hs hd ops.size _ a _ (by simp) (by simp [List.countP_replicate]) h0)
/-- what an operation waits for has come up -/
theorem ready_dep {L : Array Bool} {i : Nat} (hi : i ∈ Region.ready .any ops L) (j : Nat) (hj : ((ops[i]?).map fun o => o.after.any fun e => Region.binds .any e && e.on == j).getD false = true) : L.getD j false = true := by
  obtain ⟨_, o, ho, h⟩ := mem_ready.1 hi
  rw [ho] at hj
  obtain ⟨e, he, hb⟩ := Array.any_eq_true'.1 hj
  simp only [Bool.and_eq_true, beq_iff_eq] at hb
  rw [← hb.2]
  exact h e he hb.1
theorem ready_not' {L : Array Bool} {i : Nat} (hi : i ∈ Region.ready .any ops L) (hL : i < L.size) : L.getD i false = false := by
  have := (mem_ready.1 hi).1
  simpa [hL] using this
theorem ready_lt {L : Array Bool} {i : Nat} (hi : i ∈ Region.ready .any ops L) : i < ops.size := by
  obtain ⟨_, o, ho, _⟩ := mem_ready.1 hi
  exact (Array.getElem?_eq_some_iff.1 ho).1
theorem ready_not {L : Array Bool} {i : Nat} (hi : i ∈ Region.ready .any ops L) : L.getD i true = false := (mem_ready.1 hi).1
theorem wpOp_of {i : Nat} {o : Oper} {K : Act → World → Prop} {a : Act} {w : World} (ho : ops[i]? = some o) (hg : o.guard = none) (h : o.wp P a w K Q) : wpOp P ops Q i K a w := by
  unfold wpOp
  simp only [ho]
  rw [if_pos (by unfold Region.wanted; rw [hg])]
  exact .inl h
/-- a call of a function by its name -/
theorem wp_call_fns {o : Oper} {K : Act → World → Prop} {a : Act} {w : World} {f : FuncId} {xs : Array Operand} {ts : Array TypeId} {vs : Array Value} (ho : o.op = .call { callee := .value (.func f), args := xs, argTypes := ts })
    (hx : xs.map a.eval = vs) (he : Go.Proofs.Enters P f)
    (h : Calls P f vs w fun | .returned v, w'' => K (a.put o.dst v) w'' | .panicked chain, w'' => Q (.panic chain) a w'' | .outgrown, _ => LetsOut Q) : o.wp P a w K Q := by
  unfold Oper.wp execOp
  have he' : (callFunc f vs).run P w = .ok (.enter f vs) w := he _ _
  have hv : a.eval (.func f) = .func (.func f) #[] #[] := rfl
  simp only [ho, resolve, invoke, Sem.run_bind, hx, hv]
  simp [go_sem, he']
  exact h
theorem wp_call_fn {o : Oper} {K : Act → World → Prop} {a : Act} {w : World} {f : FuncId} {x y : Operand} {ts : Array TypeId} {v1 v2 : Value} (ho : o.op = .call { callee := .value (.func f), args := #[x, y], argTypes := ts })
    (hx : a.eval x = v1) (hy : a.eval y = v2) (he : Go.Proofs.Enters P f)
    (h : Calls P f #[v1, v2] w fun | .returned v, w'' => K (a.put o.dst v) w'' | .panicked chain, w'' => Q (.panic chain) a w'' | .outgrown, _ => LetsOut Q) : o.wp P a w K Q :=
  wp_call_fns ho (by simp [hx, hy]) he h
/-- an operation that yields a value and leaves the world -/
theorem wpOp_val {i : Nat} {o : Oper} {K : Act → World → Prop} {a : Act} {w : World} (v : Value) (ho : ops[i]? = some o) (hw : Region.wanted o (yielded ops a.tmps) = true) (hv : (execOp a.eval o).run P w = .ok (.value v) w)
    (h : K (a.put o.dst v) w) : wpOp P ops Q i K a w := by
  unfold wpOp
  simp only [ho]
  rw [if_pos hw]
  unfold Oper.wp
  rw [hv]
  exact .inl h
theorem wpOp_wp {i : Nat} {o : Oper} {K : Act → World → Prop} {a : Act} {w : World} (ho : ops[i]? = some o) (hw : Region.wanted o (yielded ops a.tmps) = true) (h : o.wp P a w K Q) : wpOp P ops Q i K a w := by
  unfold wpOp
  simp only [ho]
  rw [if_pos hw]
  exact .inl h
/-- an operation whose guard says no -/
theorem wpOp_skip {i : Nat} {o : Oper} {K : Act → World → Prop} {a : Act} {w : World} (ho : ops[i]? = some o) (hw : Region.wanted o (yielded ops a.tmps) = false) (h : K (a.put o.dst undef) w) : wpOp P ops Q i K a w := by
  unfold wpOp
  simp only [ho]
  rw [if_neg (by rw [hw]; decide)]
  exact h
theorem set_same {L : Array Bool} {i : Nat} (h : i < L.size) : (L.setIfInBounds i true).getD i false = true := by simp [h]
theorem set_other {L : Array Bool} {i j : Nat} (h : i ≠ j) : (L.setIfInBounds i true).getD j false = L.getD j false := by simp [Array.getElem?_setIfInBounds_ne h]
/-- all have come up -/
theorem all_listed {L : Array Bool} (hL : L.size = ops.size) (hacyc : (List.range ops.size).all (fun i => ((ops[i]?).map fun o => o.after.all fun e => !Region.binds .any e || e.on < i).getD true) = true)
    (hr : Region.ready .any ops L = []) : ∀ i, i < ops.size → L.getD i false = true := by
  intro i
  induction i using Nat.strongRecOn with
  | _ i ih =>
    intro hi
    have hil : i < L.size := by omega
    cases hb : L[i] with
    | true => simp [hil, hb]
    | false =>
      exfalso
      have hmem : i ∈ Region.ready .any ops L := by
        rw [mem_ready]
        refine ⟨by simp [hil, hb], ops[i], Array.getElem?_eq_getElem hi, fun e he hbnd => ?_⟩
        have h1 := List.all_eq_true.1 hacyc i (by simpa using hi)
        rw [Array.getElem?_eq_getElem hi] at h1
        simp only [Option.map_some, Option.getD_some] at h1
        have h2 := Array.all_eq_true_iff_forall_mem.1 h1 e he
        simp only [hbnd, Bool.not_true, Bool.false_or, decide_eq_true_eq] at h2
        exact ih e.on h2 (by omega)
      rw [hr] at hmem
      cases hmem
end
end Go
namespace Go.Proofs.Ytehoaenkkmmobaa
theorem row_lt' {w : World} {g : Nat} {o : Obj} (h : w.heap[g]? = some o) : g < w.heap.size := (Array.getElem?_eq_some_iff.1 h).1
end Go.Proofs.Ytehoaenkkmmobaa
namespace Go.Proofs.Ytehoaenkkmmobaa
open Go.RowKit
/-- whatever block from B on stood in W stands in W' as it was -/
structure KeepFrom (B : Nat) (W W' : World) : Prop where
  size : W.heap.size ≤ W'.heap.size
  same : ∀ k, B ≤ k → k < W.heap.size → W'.heap[k]? = W.heap[k]?
theorem KeepFrom.refl (B : Nat) (W : World) : KeepFrom B W W := ⟨Nat.le_refl _, fun _ _ _ => rfl⟩
theorem KeepFrom.trans {B : Nat} {X Y Z : World} (h : KeepFrom B X Y) (k : KeepFrom B Y Z) : KeepFrom B X Z :=
  ⟨Nat.le_trans h.size k.size, fun i h1 h2 => (k.same i h1 (Nat.lt_of_lt_of_le h2 h.size)).trans (h.same i h1 h2)⟩
theorem KeepFrom.more {B B' : Nat} {X Y : World} (h : KeepFrom B X Y) (hB : B ≤ B') : KeepFrom B' X Y := ⟨h.size, fun i h1 h2 => h.same i (Nat.le_trans hB h1) h2⟩
theorem KeepFrom.of_below {B n : Nat} {X Y : World} (h : Below n X Y) (hn : X.heap.size ≤ n) : KeepFrom B X Y := ⟨h.size, fun i _ h2 => h.block i (Nat.lt_of_lt_of_le h2 hn)⟩
theorem KeepFrom.alloc (B : Nat) (X : World) (o : Obj) : KeepFrom B X (X.alloc o) := .of_below ((Below.refl _ _).alloc (Nat.le_refl _) o) (Nat.le_refl _)
theorem KeepFrom.setCell {B : Nat} (X : World) {p : Addr} (hp : p.block < B) (v : Value) : KeepFrom B X (X.setCell p v) :=
  ⟨by simp [World.setCell], fun i h1 _ => Below.heap_setCell _ _ _ _ (by omega)⟩
theorem below_putObj {B : Nat} (W : World) {l : Nat} (o : Obj) (hl : B ≤ l) : Below B W (W.putObj l o) :=
  ⟨rfl, rfl, rfl, by simp, fun k hk => World.putObj_heap_other (by omega)⟩
variable {F : Fence} {n : Nat} {P : Program}
/-- what an iterator promises: it hands out xs, one after the other, till a round says no -/
def Iter (F : Fence) (n : Nat) (P : Program) (gf : Nat) (fa lb : Array Value) (enc : List Int → Value) (xs : List (List Int)) (G : World → Prop) (W : World) : Prop :=
  ∀ (l : Nat) (J Jx : Nat → World → Prop), (∀ k A B, J k A → Below W.heap.size A B → J k B) → (∀ k A B, Jx k A → Below W.heap.size A B → Jx k B) →
    (∀ k A, J k A → G A) → (∀ (k : Nat) (hk : k < xs.length) (W1 : World), J k W1 → YieldAt F (n - 1) P l #[enc xs[k]] W1 fun e W2 =>
      (e = .returned (.bool true) ∧ J (k + 1) W2 ∧ KeepFrom W.heap.size W1 W2) ∨ (e = .returned (.bool false) ∧ Jx (k + 1) W2 ∧ KeepFrom W.heap.size W1 W2)) →
    J 0 W →
    CallsIn F n P gf (fa ++ #[.func (.yield l) #[] #[]] ++ lb) W fun e W' => (∃ v, e = .returned v) ∧ (J xs.length W' ∨ ∃ k, 0 < k ∧ k ≤ xs.length ∧ Jx k W')
/-- how the body of a round may be left -/
def roundEnd (B : Nat) (I : Nat → World → Prop) (Ix : Code → Nat → World → Prop) (k : Nat) (W : World) : Exit → Act → World → Prop
  | .normal, _, W' => KeepFrom B W W' ∧ I k W'
  | .ret, _, W' => KeepFrom B W W' ∧ Ix .ret k W'
  | .exit id, _, W' => KeepFrom B W W' ∧ Ix (.exit id) k W'
  | .goto t, _, W' => KeepFrom B W W' ∧ Ix (.goto t) k W'
  | .panic _, _, _ => False
  | .outgrown, _, _ => False
/-- the law of the loop -/
theorem wpIn_loop {g : Operand} {ps : Array Tmp} {assign body : Code} {Q : Exit → Act → World → Prop} {a : Act} {w : World}
    (hro : F.round = none) (h1 : 1 ≤ n) {gf : Nat} {fa lb : Array Value} (hg : a.eval g = .func (.func gf) fa lb) (hFg : F.fn gf) (eg : Enters P gf)
    {enc : List Int → Value} {xs : List (List Int)} {G : World → Prop} (hseq : ∀ W, Below w.heap.size w W → G W → Iter F (n - 1) P gf fa lb enc xs G W) (hps : ps.size = 1)
    (I : Nat → World → Prop) (Ix : Code → Nat → World → Prop) (hI : ∀ k A B, I k A → Below w.heap.size A B → I k B) (hIx : ∀ c k A B, Ix c k A → Below w.heap.size A B → Ix c k B) (hG : ∀ k A, I k A → G A) (h0 : I 0 w)
    (hround : ∀ (l k : Nat) (hk : k < xs.length) (W : World), w.heap.size ≤ l → l < W.heap.size → I k W →
      assign.wpIn (F.inRound l) (n - 1 - 1) P (Exit.then (fun a₁ W₁ => Below W.heap.size W W₁ ∧ ∀ o : Obj, body.wpIn (F.inRound l) (n - 1 - 1) P (roundEnd w.heap.size I Ix (k + 1) (W₁.putObj l o)) a₁ (W₁.putObj l o)) (fun _ _ _ => False))
        { tmps := (ps.zip #[enc xs[k]]).foldl (fun t (p, v) => t.setIfInBounds p v) a.tmps, defers := [] } W)
    (hdone : ∀ (W : World), I xs.length W → W.heap[w.heap.size]? = some (.deferred (some [])) → Q .normal { a with defers := { target := .collected w.heap.size, args := #[] } :: a.defers } W)
    (hstop : ∀ (c : Code) (k : Nat) (W : World), 0 < k → k ≤ xs.length → Ix c k W → W.heap[w.heap.size]? = some (.deferred (some [])) → c.wpIn F n P Q { a with defers := { target := .collected w.heap.size, args := #[] } :: a.defers } W) :
    (Code.rangeFunc g ps assign body).wpIn F n P Q a w := by
  refine wpIn_rangeFunc fun fn hfn => ?_
  rw [hro]
  obtain ⟨R, hR⟩ : ∃ R : LoopState → Option Code → Loop, R = fun st pe => { state := st, pending := pe, fn, tmps := a.tmps, params := ps, assign, body, defers := w.heap.size } := ⟨_, rfl⟩
  obtain ⟨V, hV⟩ : ∃ V, (w.alloc (.deferred (some []))).alloc (.loop (R .ready none)) = V := ⟨_, rfl⟩
  have hVs : V.heap.size = w.heap.size + 2 := by rw [← hV]; simp
  have hwV : Below w.heap.size w V := by rw [← hV]; exact ((Below.refl _ w).alloc (Nat.le_refl _) _).alloc (by simp) _
  have hVl : V.heap[w.heap.size + 1]? = some (.loop (R .ready none)) := by rw [← hV]; exact alloc_obj _ _ _ (by simp)
  have hVd : V.heap[w.heap.size]? = some (.deferred (some [])) := by rw [← hV]; exact (Below.heap_alloc _ _ _ (by simp)).trans (alloc_obj _ _ _ rfl)
  refine ⟨w.heap.size + 1, [{ target := .collected w.heap.size, args := #[] }], V, { target := .fn (.func gf) lb, args := fa ++ #[.func (.yield (w.heap.size + 1)) #[] #[]] }, V, gf,
    fa ++ #[.func (.yield (w.heap.size + 1)) #[] #[]] ++ lb, V, ?_, ?_, ?_, ?_, fun _ => h1, ?_⟩
  · rw [← hV, hR]; exact run_enterLoop_outer _ _ _ _ _
  · simp only [resolve, hg]
    simp [go_sem]
  · intro f' hf'; simp [Target.leads] at hf'; subst hf'; exact hFg
  · have he : (callFunc gf (fa ++ #[.func (.yield (w.heap.size + 1)) #[] #[]] ++ lb)).run P V = .ok (.enter gf (fa ++ #[.func (.yield (w.heap.size + 1)) #[] #[]] ++ lb)) V := eg _ _
    simp only [invoke]
    exact he
  refine (hseq V hwV (hG 0 _ (hI 0 w V h0 hwV)) (w.heap.size + 1)
    (fun k W => I k W ∧ V.heap.size ≤ W.heap.size ∧ W.heap[w.heap.size + 1]? = some (.loop (R .ready none)) ∧ W.heap[w.heap.size]? = some (.deferred (some [])))
    (fun k W => ∃ c, Ix c k W ∧ W.heap[w.heap.size + 1]? = some (.loop (R .done (some c))) ∧ W.heap[w.heap.size]? = some (.deferred (some [])))
    (fun k A B ⟨j1, j2, j3, j4⟩ hb => ⟨hI k A B j1 (hb.mono (by omega)), Nat.le_trans j2 hb.size, (hb.block _ (by omega)).trans j3, (hb.block _ (by omega)).trans j4⟩)
    (fun k A B ⟨c, j1, j3, j4⟩ hb => ⟨c, hIx c k A B j1 (hb.mono (by omega)), (hb.block _ (by omega)).trans j3, (hb.block _ (by omega)).trans j4⟩)
    (fun k A ⟨j1, _⟩ => hG k A j1) ?_ ⟨hI 0 w V h0 hwV, Nat.le_refl _, hVl, hVd⟩).mono ?_
  · rintro k hk W ⟨i1, i2, i3, i4⟩
    have hy := run_yield (P := P) (args := #[enc xs[k]]) i3 (by rw [hR]; simp [hps])
    rw [hR] at hy
    refine ⟨fn, _, assign, body, hy, roundIn_of_wpIn hfn (wpIn_mono (hround (w.heap.size + 1) k hk W (by omega) (by omega) i1) ?_)⟩
    intro e a₁ W₁ hx
    cases e with
    | normal =>
      obtain ⟨hb1, hbody⟩ := hx
      have l1 : W₁.heap[w.heap.size + 1]? = some (.loop (R .ready none)) := (hb1.block _ (by omega)).trans i3
      have d1 : W₁.heap[w.heap.size]? = some (.deferred (some [])) := (hb1.block _ (by omega)).trans i4
      refine ⟨_, run_beginRound l1 (by rw [hR]), wpIn_mono (hbody _) ?_⟩
      have l2 : (W₁.putObj (w.heap.size + 1) (.loop { R .ready none with state := .busy })).heap[w.heap.size + 1]? = some (.loop { R .ready none with state := .busy }) := World.putObj_heap_same (row_lt' l1)
      have d2 : (W₁.putObj (w.heap.size + 1) (.loop { R .ready none with state := .busy })).heap[w.heap.size]? = some (.deferred (some [])) := (World.putObj_heap_other (by omega)).trans d1
      have s1 := hb1.size
      have fin : ∀ (jump : Option Code) (W3 : World), KeepFrom w.heap.size (W₁.putObj (w.heap.size + 1) (.loop { R .ready none with state := .busy })) W3 →
          (Instr.endRound (w.heap.size + 1) jump).run P W3 = .ok (.bool jump.isNone) (W3.putObj (w.heap.size + 1) (.loop (R (if jump.isNone then .ready else .done) jump))) ∧
          (W3.putObj (w.heap.size + 1) (.loop (R (if jump.isNone then .ready else .done) jump))).heap[w.heap.size + 1]? = some (.loop (R (if jump.isNone then .ready else .done) jump)) ∧
          (W3.putObj (w.heap.size + 1) (.loop (R (if jump.isNone then .ready else .done) jump))).heap[w.heap.size]? = some (.deferred (some [])) ∧
          KeepFrom V.heap.size W (W3.putObj (w.heap.size + 1) (.loop (R (if jump.isNone then .ready else .done) jump))) := fun jump W3 hk3 => by
        have hk3s := hk3.size
        simp only [World.putObj_size] at hk3s
        have l3 := (hk3.same (w.heap.size + 1) (by omega) (by simp; omega)).trans l2
        have d3 := (hk3.same w.heap.size (by omega) (by simp; omega)).trans d2
        have he := run_endRound (P := P) jump l3
        rw [hR] at he ⊢
        refine ⟨he, World.putObj_heap_same (row_lt' l3), (World.putObj_heap_other (by omega)).trans d3, ⟨by simp; omega, fun i h1 h2 => ?_⟩⟩
        rw [World.putObj_heap_other (by omega), hk3.same i (by omega) (by simp; omega), World.putObj_heap_other (by omega)]
        exact hb1.block i h2
      intro e2 a3 W3 hp
      cases e2 with
      | normal =>
        obtain ⟨k3, i3'⟩ := hp
        obtain ⟨f1, f2, f3, f4⟩ := fin none W3 k3
        exact ⟨_, _, f1, .inl ⟨rfl, ⟨hI _ _ _ i3' (below_putObj _ _ (by omega)), by have := f4.size; omega, f2, f3⟩, f4⟩⟩
      | ret =>
        obtain ⟨k3, i3'⟩ := hp
        obtain ⟨f1, f2, f3, f4⟩ := fin (some .ret) W3 k3
        exact ⟨_, _, f1, .inr ⟨rfl, ⟨.ret, hIx _ _ _ _ i3' (below_putObj _ _ (by omega)), f2, f3⟩, f4⟩⟩
      | exit id =>
        obtain ⟨k3, i3'⟩ := hp
        obtain ⟨f1, f2, f3, f4⟩ := fin (some (.exit id)) W3 k3
        exact ⟨_, _, f1, .inr ⟨rfl, ⟨.exit id, hIx _ _ _ _ i3' (below_putObj _ _ (by omega)), f2, f3⟩, f4⟩⟩
      | goto t =>
        obtain ⟨k3, i3'⟩ := hp
        obtain ⟨f1, f2, f3, f4⟩ := fin (some (.goto t)) W3 k3
        exact ⟨_, _, f1, .inr ⟨rfl, ⟨.goto t, hIx _ _ _ _ i3' (below_putObj _ _ (by omega)), f2, f3⟩, f4⟩⟩
      | panic ch => exact hp.elim
      | outgrown => exact hp.elim
    | exit id => exact hx.elim
    | goto t => exact hx.elim
    | ret => exact hx.elim
    | panic chain => exact hx.elim
    | outgrown => exact hx.elim
  · rintro e W2 ⟨⟨v, rfl⟩, h⟩
    rcases h with ⟨i1, _, i3, i4⟩ | ⟨k, k0, k1, c, i1, i3, i4⟩
    · refine ⟨none, _, (by have := run_endLoop (P := P) i3 (by rw [hR]; simp); rw [hR] at this; exact this), ?_⟩
      exact hdone _ (hI _ _ _ i1 (below_putObj _ _ (by omega))) ((World.putObj_heap_other (by omega)).trans i4)
    · refine ⟨some c, _, (by have := run_endLoop (P := P) i3 (by rw [hR]; simp); rw [hR] at this; exact this), ?_⟩
      exact hstop c k _ k0 k1 (hIx _ _ _ _ i1 (below_putObj _ _ (by omega))) ((World.putObj_heap_other (by omega)).trans i4)
end Go.Proofs.Ytehoaenkkmmobaa
namespace Go.Proofs.Ytehoaenkkmmobaa
open Go.RowKit
/-- below lo nothing turns, nor in what stands from hi on -/
structure BelowD (lo hi : Nat) (A B : World) : Prop where
  low : Below lo A B
  high : ∀ b, hi ≤ b → b < A.heap.size → B.heap[b]? = A.heap[b]?
theorem BelowD.refl (lo hi : Nat) (A : World) : BelowD lo hi A A := ⟨Below.refl _ _, fun _ _ _ => rfl⟩
theorem BelowD.trans {lo hi : Nat} {X Y Z : World} (h : BelowD lo hi X Y) (k : BelowD lo hi Y Z) : BelowD lo hi X Z :=
  ⟨h.low.trans k.low, fun b h1 h2 => (k.high b h1 (Nat.lt_of_lt_of_le h2 h.low.size)).trans (h.high b h1 h2)⟩
theorem BelowD.mono {lo hi lo' hi' : Nat} {X Y : World} (h : BelowD lo hi X Y) (h1 : lo' ≤ lo) (h2 : hi ≤ hi') : BelowD lo' hi' X Y := ⟨h.low.mono h1, fun b e => h.high b (Nat.le_trans h2 e)⟩
theorem BelowD.of_below {lo hi n : Nat} {X Y : World} (h : Below n X Y) (hn : X.heap.size ≤ n) (hl : lo ≤ n) : BelowD lo hi X Y := ⟨h.mono hl, fun b _ h2 => h.block b (Nat.lt_of_lt_of_le h2 hn)⟩
theorem BelowD.putObj {lo hi : Nat} (W : World) {l : Nat} (o : Obj) (h1 : lo ≤ l) (h2 : l < hi) : BelowD lo hi W (W.putObj l o) := ⟨below_putObj W o h1, fun _ e _ => World.putObj_heap_other (by omega)⟩
/-- what stands from lo on, below hi, stays -/
structure KeepMid (lo hi : Nat) (A B : World) : Prop where
  size : A.heap.size ≤ B.heap.size
  same : ∀ b, lo ≤ b → b < hi → b < A.heap.size → B.heap[b]? = A.heap[b]?
theorem KeepMid.refl (lo hi : Nat) (A : World) : KeepMid lo hi A A := ⟨Nat.le_refl _, fun _ _ _ _ => rfl⟩
theorem KeepMid.trans {lo hi : Nat} {X Y Z : World} (h : KeepMid lo hi X Y) (k : KeepMid lo hi Y Z) : KeepMid lo hi X Z :=
  ⟨Nat.le_trans h.size k.size, fun b h0 h1 h2 => (k.same b h0 h1 (Nat.lt_of_lt_of_le h2 h.size)).trans (h.same b h0 h1 h2)⟩
theorem KeepMid.mono {lo hi lo' hi' : Nat} {X Y : World} (h : KeepMid lo hi X Y) (h1 : lo ≤ lo') (h2 : hi' ≤ hi) : KeepMid lo' hi' X Y := ⟨h.size, fun b a c => h.same b (Nat.le_trans h1 a) (Nat.lt_of_lt_of_le c h2)⟩
theorem KeepMid.of_below {lo hi n : Nat} {X Y : World} (h : Below n X Y) (hn : hi ≤ n) : KeepMid lo hi X Y := ⟨h.size, fun b _ h1 _ => h.block b (Nat.lt_of_lt_of_le h1 hn)⟩
theorem KeepMid.of_call {lo hi n : Nat} {X Y : World} (h : Below n X Y) (hn : X.heap.size ≤ n) : KeepMid lo hi X Y := ⟨h.size, fun b _ _ h2 => h.block b (Nat.lt_of_lt_of_le h2 hn)⟩
theorem KeepMid.setCell {lo hi : Nat} (X : World) {p : Addr} (hp : p.block < lo ∨ hi ≤ p.block) (v : Value) : KeepMid lo hi X (X.setCell p v) :=
  ⟨by simp [World.setCell], fun i h1 h2 _ => Below.heap_setCell _ _ _ _ (by omega)⟩
variable {F : Fence} {n : Nat} {P : Program}
/-- what an iterator promises: it hands out xs, one after the other, till a round says no -/
def IterD (F : Fence) (n : Nat) (P : Program) (gf : Nat) (fa lb : Array Value) (enc : List Int → Value) (xs : List (List Int)) (G : World → Prop) (d : Nat) (W : World) : Prop :=
  ∀ (l : Nat) (J Jx : Nat → World → Prop), (∀ k A B, J k A → BelowD W.heap.size (W.heap.size + d) A B → J k B) → (∀ k A B, Jx k A → BelowD W.heap.size (W.heap.size + d) A B → Jx k B) →
    (∀ k A, J k A → G A) → (∀ (k : Nat) (hk : k < xs.length) (W1 : World), W.heap.size + d ≤ W1.heap.size → J k W1 → YieldAt F (n - 1) P l #[enc xs[k]] W1 fun e W2 =>
      (e = .returned (.bool true) ∧ J (k + 1) W2 ∧ KeepMid W.heap.size (W.heap.size + d) W1 W2) ∨ (e = .returned (.bool false) ∧ Jx (k + 1) W2 ∧ KeepMid W.heap.size (W.heap.size + d) W1 W2)) →
    J 0 W →
    CallsIn F n P gf (fa ++ #[.func (.yield l) #[] #[]] ++ lb) W fun e W' => (∃ v, e = .returned v) ∧ (J xs.length W' ∨ ∃ k, 0 < k ∧ k ≤ xs.length ∧ Jx k W')
/-- how the body of a round may be left -/
def roundEndD (B C : Nat) (I : Nat → World → Prop) (Ix : Code → Nat → World → Prop) (k : Nat) (W : World) : Exit → Act → World → Prop
  | .normal, _, W' => KeepMid B C W W' ∧ I k W'
  | .ret, _, W' => KeepMid B C W W' ∧ Ix .ret k W'
  | .exit id, _, W' => KeepMid B C W W' ∧ Ix (.exit id) k W'
  | .goto t, _, W' => KeepMid B C W W' ∧ Ix (.goto t) k W'
  | .panic _, _, _ => False
  | .outgrown, _, _ => False
/-- the law of the loop -/
theorem wpIn_loopD {g : Operand} {ps : Array Tmp} {assign body : Code} {Q : Exit → Act → World → Prop} {a : Act} {w : World}
    (hro : F.round = none) (h1 : 1 ≤ n) {gf : Nat} {fa lb : Array Value} (hg : a.eval g = .func (.func gf) fa lb) (hFg : F.fn gf) (eg : Enters P gf)
    {enc : List Int → Value} {xs : List (List Int)} {G : World → Prop} (d : Nat) (hseq : ∀ W, Below w.heap.size w W → G W → W.heap.size = w.heap.size + 2 → IterD F (n - 1) P gf fa lb enc xs G d W) (hps : ps.size = 1)
    (I : Nat → World → Prop) (Ix : Code → Nat → World → Prop) (hI : ∀ k A B, I k A → BelowD w.heap.size (w.heap.size + 2 + d) A B → I k B) (hIx : ∀ c k A B, Ix c k A → BelowD w.heap.size (w.heap.size + 2 + d) A B → Ix c k B) (hG : ∀ k A, I k A → G A) (h0 : I 0 w)
    (hround : ∀ (l k : Nat) (hk : k < xs.length) (W : World), w.heap.size ≤ l → l < w.heap.size + 2 → w.heap.size + 2 + d ≤ W.heap.size → I k W →
      assign.wpIn (F.inRound l) (n - 1 - 1) P (Exit.then (fun a₁ W₁ => Below W.heap.size W W₁ ∧ ∀ o : Obj, body.wpIn (F.inRound l) (n - 1 - 1) P (roundEndD w.heap.size (w.heap.size + 2 + d) I Ix (k + 1) (W₁.putObj l o)) a₁ (W₁.putObj l o)) (fun _ _ _ => False))
        { tmps := (ps.zip #[enc xs[k]]).foldl (fun t (p, v) => t.setIfInBounds p v) a.tmps, defers := [] } W)
    (hdone : ∀ (W : World), I xs.length W → W.heap[w.heap.size]? = some (.deferred (some [])) → Q .normal { a with defers := { target := .collected w.heap.size, args := #[] } :: a.defers } W)
    (hstop : ∀ (c : Code) (k : Nat) (W : World), 0 < k → k ≤ xs.length → Ix c k W → W.heap[w.heap.size]? = some (.deferred (some [])) → c.wpIn F n P Q { a with defers := { target := .collected w.heap.size, args := #[] } :: a.defers } W) :
    (Code.rangeFunc g ps assign body).wpIn F n P Q a w := by
  refine wpIn_rangeFunc fun fn hfn => ?_
  rw [hro]
  obtain ⟨R, hR⟩ : ∃ R : LoopState → Option Code → Loop, R = fun st pe => { state := st, pending := pe, fn, tmps := a.tmps, params := ps, assign, body, defers := w.heap.size } := ⟨_, rfl⟩
  obtain ⟨V, hV⟩ : ∃ V, (w.alloc (.deferred (some []))).alloc (.loop (R .ready none)) = V := ⟨_, rfl⟩
  have hVs : V.heap.size = w.heap.size + 2 := by rw [← hV]; simp
  have hwV : Below w.heap.size w V := by rw [← hV]; exact ((Below.refl _ w).alloc (Nat.le_refl _) _).alloc (by simp) _
  have hVl : V.heap[w.heap.size + 1]? = some (.loop (R .ready none)) := by rw [← hV]; exact alloc_obj _ _ _ (by simp)
  have hVd : V.heap[w.heap.size]? = some (.deferred (some [])) := by rw [← hV]; exact (Below.heap_alloc _ _ _ (by simp)).trans (alloc_obj _ _ _ rfl)
  refine ⟨w.heap.size + 1, [{ target := .collected w.heap.size, args := #[] }], V, { target := .fn (.func gf) lb, args := fa ++ #[.func (.yield (w.heap.size + 1)) #[] #[]] }, V, gf,
    fa ++ #[.func (.yield (w.heap.size + 1)) #[] #[]] ++ lb, V, ?_, ?_, ?_, ?_, fun _ => h1, ?_⟩
  · rw [← hV, hR]; exact run_enterLoop_outer _ _ _ _ _
  · simp only [resolve, hg]
    simp [go_sem]
  · intro f' hf'; simp [Target.leads] at hf'; subst hf'; exact hFg
  · have he : (callFunc gf (fa ++ #[.func (.yield (w.heap.size + 1)) #[] #[]] ++ lb)).run P V = .ok (.enter gf (fa ++ #[.func (.yield (w.heap.size + 1)) #[] #[]] ++ lb)) V := eg _ _
    simp only [invoke]
    exact he
  have hwD : BelowD w.heap.size (w.heap.size + 2 + d) w V := .of_below hwV (Nat.le_refl _) (Nat.le_refl _)
  refine (hseq V hwV (hG 0 _ (hI 0 w V h0 hwD)) hVs (w.heap.size + 1)
    (fun k W => I k W ∧ V.heap.size ≤ W.heap.size ∧ W.heap[w.heap.size + 1]? = some (.loop (R .ready none)) ∧ W.heap[w.heap.size]? = some (.deferred (some [])))
    (fun k W => ∃ c, Ix c k W ∧ W.heap[w.heap.size + 1]? = some (.loop (R .done (some c))) ∧ W.heap[w.heap.size]? = some (.deferred (some [])))
    (fun k A B ⟨j1, j2, j3, j4⟩ hb => ⟨hI k A B j1 (hb.mono (by omega) (by omega)), Nat.le_trans j2 hb.low.size, (hb.low.block _ (by omega)).trans j3, (hb.low.block _ (by omega)).trans j4⟩)
    (fun k A B ⟨c, j1, j3, j4⟩ hb => ⟨c, hIx c k A B j1 (hb.mono (by omega) (by omega)), (hb.low.block _ (by omega)).trans j3, (hb.low.block _ (by omega)).trans j4⟩)
    (fun k A ⟨j1, _⟩ => hG k A j1) ?_ ⟨hI 0 w V h0 hwD, Nat.le_refl _, hVl, hVd⟩).mono ?_
  · rintro k hk W hd ⟨i1, i2, i3, i4⟩
    have hy := run_yield (P := P) (args := #[enc xs[k]]) i3 (by rw [hR]; simp [hps])
    rw [hR] at hy
    refine ⟨fn, _, assign, body, hy, roundIn_of_wpIn hfn (wpIn_mono (hround (w.heap.size + 1) k hk W (by omega) (by omega) (by omega) i1) ?_)⟩
    intro e a₁ W₁ hx
    cases e with
    | normal =>
      obtain ⟨hb1, hbody⟩ := hx
      have l1 : W₁.heap[w.heap.size + 1]? = some (.loop (R .ready none)) := (hb1.block _ (by omega)).trans i3
      have d1 : W₁.heap[w.heap.size]? = some (.deferred (some [])) := (hb1.block _ (by omega)).trans i4
      refine ⟨_, run_beginRound l1 (by rw [hR]), wpIn_mono (hbody _) ?_⟩
      have l2 : (W₁.putObj (w.heap.size + 1) (.loop { R .ready none with state := .busy })).heap[w.heap.size + 1]? = some (.loop { R .ready none with state := .busy }) := World.putObj_heap_same (row_lt' l1)
      have d2 : (W₁.putObj (w.heap.size + 1) (.loop { R .ready none with state := .busy })).heap[w.heap.size]? = some (.deferred (some [])) := (World.putObj_heap_other (by omega)).trans d1
      have s1 := hb1.size
      have fin : ∀ (jump : Option Code) (W3 : World), KeepMid w.heap.size (w.heap.size + 2 + d) (W₁.putObj (w.heap.size + 1) (.loop { R .ready none with state := .busy })) W3 →
          (Instr.endRound (w.heap.size + 1) jump).run P W3 = .ok (.bool jump.isNone) (W3.putObj (w.heap.size + 1) (.loop (R (if jump.isNone then .ready else .done) jump))) ∧
          (W3.putObj (w.heap.size + 1) (.loop (R (if jump.isNone then .ready else .done) jump))).heap[w.heap.size + 1]? = some (.loop (R (if jump.isNone then .ready else .done) jump)) ∧
          (W3.putObj (w.heap.size + 1) (.loop (R (if jump.isNone then .ready else .done) jump))).heap[w.heap.size]? = some (.deferred (some [])) ∧
          KeepMid V.heap.size (V.heap.size + d) W (W3.putObj (w.heap.size + 1) (.loop (R (if jump.isNone then .ready else .done) jump))) := fun jump W3 hk3 => by
        have hk3s := hk3.size
        simp only [World.putObj_size] at hk3s
        have l3 := (hk3.same (w.heap.size + 1) (by omega) (by omega) (by simp; omega)).trans l2
        have d3 := (hk3.same w.heap.size (by omega) (by omega) (by simp; omega)).trans d2
        have he := run_endRound (P := P) jump l3
        rw [hR] at he ⊢
        refine ⟨he, World.putObj_heap_same (row_lt' l3), (World.putObj_heap_other (by omega)).trans d3, ⟨by simp; omega, fun i h1 h2 h3 => ?_⟩⟩
        rw [World.putObj_heap_other (by omega), hk3.same i (by omega) (by omega) (by simp; omega), World.putObj_heap_other (by omega)]
        exact hb1.block i h3
      intro e2 a3 W3 hp
      cases e2 with
      | normal =>
        obtain ⟨k3, i3'⟩ := hp
        obtain ⟨f1, f2, f3, f4⟩ := fin none W3 k3
        exact ⟨_, _, f1, .inl ⟨rfl, ⟨hI _ _ _ i3' (.putObj _ _ (by omega) (by omega)), by have := f4.size; omega, f2, f3⟩, f4⟩⟩
      | ret =>
        obtain ⟨k3, i3'⟩ := hp
        obtain ⟨f1, f2, f3, f4⟩ := fin (some .ret) W3 k3
        exact ⟨_, _, f1, .inr ⟨rfl, ⟨.ret, hIx _ _ _ _ i3' (.putObj _ _ (by omega) (by omega)), f2, f3⟩, f4⟩⟩
      | exit id =>
        obtain ⟨k3, i3'⟩ := hp
        obtain ⟨f1, f2, f3, f4⟩ := fin (some (.exit id)) W3 k3
        exact ⟨_, _, f1, .inr ⟨rfl, ⟨.exit id, hIx _ _ _ _ i3' (.putObj _ _ (by omega) (by omega)), f2, f3⟩, f4⟩⟩
      | goto t =>
        obtain ⟨k3, i3'⟩ := hp
        obtain ⟨f1, f2, f3, f4⟩ := fin (some (.goto t)) W3 k3
        exact ⟨_, _, f1, .inr ⟨rfl, ⟨.goto t, hIx _ _ _ _ i3' (.putObj _ _ (by omega) (by omega)), f2, f3⟩, f4⟩⟩
      | panic ch => exact hp.elim
      | outgrown => exact hp.elim
    | exit id => exact hx.elim
    | goto t => exact hx.elim
    | ret => exact hx.elim
    | panic chain => exact hx.elim
    | outgrown => exact hx.elim
  · rintro e W2 ⟨⟨v, rfl⟩, h⟩
    rcases h with ⟨i1, _, i3, i4⟩ | ⟨k, k0, k1, c, i1, i3, i4⟩
    · refine ⟨none, _, (by have := run_endLoop (P := P) i3 (by rw [hR]; simp); rw [hR] at this; exact this), ?_⟩
      exact hdone _ (hI _ _ _ i1 (.putObj _ _ (by omega) (by omega))) ((World.putObj_heap_other (by omega)).trans i4)
    · refine ⟨some c, _, (by have := run_endLoop (P := P) i3 (by rw [hR]; simp); rw [hR] at this; exact this), ?_⟩
      exact hstop c k _ k0 k1 (hIx _ _ _ _ i1 (.putObj _ _ (by omega) (by omega))) ((World.putObj_heap_other (by omega)).trans i4)
end Go.Proofs.Ytehoaenkkmmobaa
namespace Go.Proofs.Ytehoaenkkmmobaa
open Go.RowKit
variable {F : Fence} {n : Nat} {P : Program}
/-- what an iterator promises: it hands out m values, the k-th one as E says in the world of its round, till a round says no -/
def IterR (F : Fence) (n : Nat) (P : Program) (gf : Nat) (fa lb : Array Value) (m : Nat) (E : Nat → World → Value → Prop) (G : World → Prop) (d : Nat) (W : World) : Prop :=
  ∀ (l : Nat) (J Jx : Nat → World → Prop), (∀ k A B, J k A → BelowD W.heap.size (W.heap.size + d) A B → J k B) → (∀ k A B, Jx k A → BelowD W.heap.size (W.heap.size + d) A B → Jx k B) →
    (∀ k A, J k A → G A) → (∀ (k : Nat) (_ : k < m) (W1 : World) (v : Value), W.heap.size + d ≤ W1.heap.size → J k W1 → E k W1 v → YieldAt F (n - 1) P l #[v] W1 fun e W2 =>
      (e = .returned (.bool true) ∧ J (k + 1) W2 ∧ KeepMid W.heap.size (W.heap.size + d) W1 W2) ∨ (e = .returned (.bool false) ∧ Jx (k + 1) W2 ∧ KeepMid W.heap.size (W.heap.size + d) W1 W2)) →
    J 0 W →
    CallsIn F n P gf (fa ++ #[.func (.yield l) #[] #[]] ++ lb) W fun e W' => (∃ v, e = .returned v) ∧ (J m W' ∨ ∃ k, 0 < k ∧ k ≤ m ∧ Jx k W')
/-- the law of the loop -/
theorem wpIn_loopR {g : Operand} {ps : Array Tmp} {assign body : Code} {Q : Exit → Act → World → Prop} {a : Act} {w : World}
    (hro : F.round = none) (h1 : 1 ≤ n) {gf : Nat} {fa lb : Array Value} (hg : a.eval g = .func (.func gf) fa lb) (hFg : F.fn gf) (eg : Enters P gf)
    {m : Nat} {E : Nat → Nat → World → Value → Prop} {G : World → Prop} (d : Nat) (hseq : ∀ W, Below w.heap.size w W → G W → W.heap.size = w.heap.size + 2 → IterR F (n - 1) P gf fa lb m (E W.heap.size) G d W) (hps : ps.size = 1)
    (I : Nat → World → Prop) (Ix : Code → Nat → World → Prop) (hI : ∀ k A B, I k A → BelowD w.heap.size (w.heap.size + 2 + d) A B → I k B) (hIx : ∀ c k A B, Ix c k A → BelowD w.heap.size (w.heap.size + 2 + d) A B → Ix c k B) (hG : ∀ k A, I k A → G A) (h0 : I 0 w)
    (hround : ∀ (l k : Nat) (_ : k < m) (W : World) (v : Value), w.heap.size ≤ l → l < w.heap.size + 2 → w.heap.size + 2 + d ≤ W.heap.size → I k W → E (w.heap.size + 2) k W v →
      assign.wpIn (F.inRound l) (n - 1 - 1) P (Exit.then (fun a₁ W₁ => Below W.heap.size W W₁ ∧ ∀ o : Obj, body.wpIn (F.inRound l) (n - 1 - 1) P (roundEndD w.heap.size (w.heap.size + 2 + d) I Ix (k + 1) (W₁.putObj l o)) a₁ (W₁.putObj l o)) (fun _ _ _ => False))
        { tmps := (ps.zip #[v]).foldl (fun t (p, v) => t.setIfInBounds p v) a.tmps, defers := [] } W)
    (hdone : ∀ (W : World), I m W → W.heap[w.heap.size]? = some (.deferred (some [])) → Q .normal { a with defers := { target := .collected w.heap.size, args := #[] } :: a.defers } W)
    (hstop : ∀ (c : Code) (k : Nat) (W : World), 0 < k → k ≤ m → Ix c k W → W.heap[w.heap.size]? = some (.deferred (some [])) → c.wpIn F n P Q { a with defers := { target := .collected w.heap.size, args := #[] } :: a.defers } W) :
    (Code.rangeFunc g ps assign body).wpIn F n P Q a w := by
  refine wpIn_rangeFunc fun fn hfn => ?_
  rw [hro]
  obtain ⟨R, hR⟩ : ∃ R : LoopState → Option Code → Loop, R = fun st pe => { state := st, pending := pe, fn, tmps := a.tmps, params := ps, assign, body, defers := w.heap.size } := ⟨_, rfl⟩
  obtain ⟨V, hV⟩ : ∃ V, (w.alloc (.deferred (some []))).alloc (.loop (R .ready none)) = V := ⟨_, rfl⟩
  have hVs : V.heap.size = w.heap.size + 2 := by rw [← hV]; simp
  have hwV : Below w.heap.size w V := by rw [← hV]; exact ((Below.refl _ w).alloc (Nat.le_refl _) _).alloc (by simp) _
  have hVl : V.heap[w.heap.size + 1]? = some (.loop (R .ready none)) := by rw [← hV]; exact alloc_obj _ _ _ (by simp)
  have hVd : V.heap[w.heap.size]? = some (.deferred (some [])) := by rw [← hV]; exact (Below.heap_alloc _ _ _ (by simp)).trans (alloc_obj _ _ _ rfl)
  refine ⟨w.heap.size + 1, [{ target := .collected w.heap.size, args := #[] }], V, { target := .fn (.func gf) lb, args := fa ++ #[.func (.yield (w.heap.size + 1)) #[] #[]] }, V, gf,
    fa ++ #[.func (.yield (w.heap.size + 1)) #[] #[]] ++ lb, V, ?_, ?_, ?_, ?_, fun _ => h1, ?_⟩
  · rw [← hV, hR]; exact run_enterLoop_outer _ _ _ _ _
  · simp only [resolve, hg]
    simp [go_sem]
  · intro f' hf'; simp [Target.leads] at hf'; subst hf'; exact hFg
  · have he : (callFunc gf (fa ++ #[.func (.yield (w.heap.size + 1)) #[] #[]] ++ lb)).run P V = .ok (.enter gf (fa ++ #[.func (.yield (w.heap.size + 1)) #[] #[]] ++ lb)) V := eg _ _
    simp only [invoke]
    exact he
  have hwD : BelowD w.heap.size (w.heap.size + 2 + d) w V := .of_below hwV (Nat.le_refl _) (Nat.le_refl _)
  refine (hseq V hwV (hG 0 _ (hI 0 w V h0 hwD)) hVs (w.heap.size + 1)
    (fun k W => I k W ∧ V.heap.size ≤ W.heap.size ∧ W.heap[w.heap.size + 1]? = some (.loop (R .ready none)) ∧ W.heap[w.heap.size]? = some (.deferred (some [])))
    (fun k W => ∃ c, Ix c k W ∧ W.heap[w.heap.size + 1]? = some (.loop (R .done (some c))) ∧ W.heap[w.heap.size]? = some (.deferred (some [])))
    (fun k A B ⟨j1, j2, j3, j4⟩ hb => ⟨hI k A B j1 (hb.mono (by omega) (by omega)), Nat.le_trans j2 hb.low.size, (hb.low.block _ (by omega)).trans j3, (hb.low.block _ (by omega)).trans j4⟩)
    (fun k A B ⟨c, j1, j3, j4⟩ hb => ⟨c, hIx c k A B j1 (hb.mono (by omega) (by omega)), (hb.low.block _ (by omega)).trans j3, (hb.low.block _ (by omega)).trans j4⟩)
    (fun k A ⟨j1, _⟩ => hG k A j1) ?_ ⟨hI 0 w V h0 hwD, Nat.le_refl _, hVl, hVd⟩).mono ?_
  · rintro k hk W v hd ⟨i1, i2, i3, i4⟩ hE
    have hy := run_yield (P := P) (args := #[v]) i3 (by rw [hR]; simp [hps])
    rw [hR] at hy
    refine ⟨fn, _, assign, body, hy, roundIn_of_wpIn hfn (wpIn_mono (hround (w.heap.size + 1) k hk W v (by omega) (by omega) (by omega) i1 (by rw [← hVs]; exact hE)) ?_)⟩
    intro e a₁ W₁ hx
    cases e with
    | normal =>
      obtain ⟨hb1, hbody⟩ := hx
      have l1 : W₁.heap[w.heap.size + 1]? = some (.loop (R .ready none)) := (hb1.block _ (by omega)).trans i3
      have d1 : W₁.heap[w.heap.size]? = some (.deferred (some [])) := (hb1.block _ (by omega)).trans i4
      refine ⟨_, run_beginRound l1 (by rw [hR]), wpIn_mono (hbody _) ?_⟩
      have l2 : (W₁.putObj (w.heap.size + 1) (.loop { R .ready none with state := .busy })).heap[w.heap.size + 1]? = some (.loop { R .ready none with state := .busy }) := World.putObj_heap_same (row_lt' l1)
      have d2 : (W₁.putObj (w.heap.size + 1) (.loop { R .ready none with state := .busy })).heap[w.heap.size]? = some (.deferred (some [])) := (World.putObj_heap_other (by omega)).trans d1
      have s1 := hb1.size
      have fin : ∀ (jump : Option Code) (W3 : World), KeepMid w.heap.size (w.heap.size + 2 + d) (W₁.putObj (w.heap.size + 1) (.loop { R .ready none with state := .busy })) W3 →
          (Instr.endRound (w.heap.size + 1) jump).run P W3 = .ok (.bool jump.isNone) (W3.putObj (w.heap.size + 1) (.loop (R (if jump.isNone then .ready else .done) jump))) ∧
          (W3.putObj (w.heap.size + 1) (.loop (R (if jump.isNone then .ready else .done) jump))).heap[w.heap.size + 1]? = some (.loop (R (if jump.isNone then .ready else .done) jump)) ∧
          (W3.putObj (w.heap.size + 1) (.loop (R (if jump.isNone then .ready else .done) jump))).heap[w.heap.size]? = some (.deferred (some [])) ∧
          KeepMid V.heap.size (V.heap.size + d) W (W3.putObj (w.heap.size + 1) (.loop (R (if jump.isNone then .ready else .done) jump))) := fun jump W3 hk3 => by
        have hk3s := hk3.size
        simp only [World.putObj_size] at hk3s
        have l3 := (hk3.same (w.heap.size + 1) (by omega) (by omega) (by simp; omega)).trans l2
        have d3 := (hk3.same w.heap.size (by omega) (by omega) (by simp; omega)).trans d2
        have he := run_endRound (P := P) jump l3
        rw [hR] at he ⊢
        refine ⟨he, World.putObj_heap_same (row_lt' l3), (World.putObj_heap_other (by omega)).trans d3, ⟨by simp; omega, fun i h1 h2 h3 => ?_⟩⟩
        rw [World.putObj_heap_other (by omega), hk3.same i (by omega) (by omega) (by simp; omega), World.putObj_heap_other (by omega)]
        exact hb1.block i h3
      intro e2 a3 W3 hp
      cases e2 with
      | normal =>
        obtain ⟨k3, i3'⟩ := hp
        obtain ⟨f1, f2, f3, f4⟩ := fin none W3 k3
        exact ⟨_, _, f1, .inl ⟨rfl, ⟨hI _ _ _ i3' (.putObj _ _ (by omega) (by omega)), by have := f4.size; omega, f2, f3⟩, f4⟩⟩
      | ret =>
        obtain ⟨k3, i3'⟩ := hp
        obtain ⟨f1, f2, f3, f4⟩ := fin (some .ret) W3 k3
        exact ⟨_, _, f1, .inr ⟨rfl, ⟨.ret, hIx _ _ _ _ i3' (.putObj _ _ (by omega) (by omega)), f2, f3⟩, f4⟩⟩
      | exit id =>
        obtain ⟨k3, i3'⟩ := hp
        obtain ⟨f1, f2, f3, f4⟩ := fin (some (.exit id)) W3 k3
        exact ⟨_, _, f1, .inr ⟨rfl, ⟨.exit id, hIx _ _ _ _ i3' (.putObj _ _ (by omega) (by omega)), f2, f3⟩, f4⟩⟩
      | goto t =>
        obtain ⟨k3, i3'⟩ := hp
        obtain ⟨f1, f2, f3, f4⟩ := fin (some (.goto t)) W3 k3
        exact ⟨_, _, f1, .inr ⟨rfl, ⟨.goto t, hIx _ _ _ _ i3' (.putObj _ _ (by omega) (by omega)), f2, f3⟩, f4⟩⟩
      | panic ch => exact hp.elim
      | outgrown => exact hp.elim
    | exit id => exact hx.elim
    | goto t => exact hx.elim
    | ret => exact hx.elim
    | panic chain => exact hx.elim
    | outgrown => exact hx.elim
  · rintro e W2 ⟨⟨v, rfl⟩, h⟩
    rcases h with ⟨i1, _, i3, i4⟩ | ⟨k, k0, k1, c, i1, i3, i4⟩
    · refine ⟨none, _, (by have := run_endLoop (P := P) i3 (by rw [hR]; simp); rw [hR] at this; exact this), ?_⟩
      exact hdone _ (hI _ _ _ i1 (.putObj _ _ (by omega) (by omega))) ((World.putObj_heap_other (by omega)).trans i4)
    · refine ⟨some c, _, (by have := run_endLoop (P := P) i3 (by rw [hR]; simp); rw [hR] at this; exact this), ?_⟩
      exact hstop c k _ k0 k1 (hIx _ _ _ _ i1 (.putObj _ _ (by omega) (by omega))) ((World.putObj_heap_other (by omega)).trans i4)
end Go.Proofs.Ytehoaenkkmmobaa
namespace Go
section
variable {P : Program} {ops : Array Oper} {Q : Exit → Act → World → Prop}
theorem wpIn_of_wp_op {l n : Nat} {o : Oper} {a : Act} {w : World} {K : Act → World → Prop} (hd : ∀ c, o.op ≠ .defer c) (h : o.wp P a w K Q) : o.wpIn (Fence.wide.inRound l) n P a w K Q := by
  refine ⟨fun _ _ => trivial, ?_⟩
  rw [Oper.semAt_eq _ _ _ hd]
  unfold Oper.wp at h
  revert h
  cases (execOp a.eval o).run P w with
  | ok x w' =>
    cases x <;> intro h <;> first
      | exact (h : False).elim
      | exact ⟨fun h' => by simp [Fence.wide] at h', CallsIn.inRound l (callsIn_wide.2 h)⟩
      | exact ⟨fun h' => by simp [Fence.wide] at h', fun c cs _ => (by
          obtain ⟨v, w2, r, s⟩ := h c cs
          exact ⟨v, w2, r, stepsIn_wide.2 s⟩)⟩
      | exact h
  | halt x w' => cases x <;> exact fun h => h
theorem wpAnyIn_inv {l n : Nat} (hnd : ∀ o ∈ ops, ∀ c, o.op ≠ .defer c) (J : Array Bool → Act → World → Prop)
    (hs : ∀ (i : Nat) (L : Array Bool) (a : Act) (w : World), J L a w → i ∈ Region.ready .any ops L → ∃ o, ops[i]? = some o ∧ Region.wanted o (yielded ops a.tmps) = true ∧ o.wp P a w (J (L.setIfInBounds i true)) Q)
    (hd : ∀ (L : Array Bool) (a : Act) (w : World), J L a w → Region.ready .any ops L = [] → Q .normal a w) :
    ∀ (fuel : Nat) (L : Array Bool) (a : Act) (w : World), L.size = ops.size → (L.toList.countP (! ·)) ≤ fuel → J L a w → wpAnyIn (Fence.wide.inRound l) n P .any ops Q fuel L a w := by
  intro fuel
  induction fuel with
  | zero =>
    intro L a w hL hc hJ
    have hr : Region.ready .any ops L = [] := by
      rw [List.eq_nil_iff_forall_not_mem]
      intro i hi
      have h0 := (mem_ready.1 hi).1
      have hlt : i < L.size := by
        rcases Nat.lt_or_ge i L.size with h' | h'
        · exact h'
        · simp [Array.getElem?_eq_none h'] at h0
      have h1 : 0 < L.toList.countP (! ·) := by
        rw [List.countP_pos_iff]
        exact ⟨L[i], by simp, by simpa [hlt] using h0⟩
      omega
    exact ⟨hr, hd L a w hJ hr⟩
  | succ fuel ih =>
    intro L a w hL hc hJ
    refine ⟨fun hr => hd L a w hJ hr, fun i hi => ?_⟩
    obtain ⟨o, ho, hw, hp⟩ := hs i L a w hJ hi
    have h0 := (mem_ready.1 hi).1
    have hlt : i < L.size := by
      rcases Nat.lt_or_ge i L.size with h' | h'
      · exact h'
      · simp [Array.getElem?_eq_none h'] at h0
    have hb : L[i] = false := by simpa [hlt] using h0
    have h2 : (L.setIfInBounds i true).toList.countP (! ·) + 1 = L.toList.countP (! ·) := by
      rw [Array.toList_setIfInBounds]
      have e : L.toList = L.toList.take i ++ L[i] :: L.toList.drop (i + 1) := by
        have := List.take_append_drop i L.toList
        rw [List.drop_eq_getElem_cons (by simpa using hlt)] at this
        simpa using this.symm
      have e2 : L.toList.set i true = L.toList.take i ++ true :: L.toList.drop (i + 1) := by
        rw [List.set_eq_take_append_cons_drop, if_pos (by simpa using hlt)]
      rw [e2]
      conv => rhs; rw [e]
      simp [List.countP_append, hb]
      omega
    unfold wpOpIn
    rw [ho]
    simp only [hw, if_true]
    exact wpIn_of_wp_op (hnd o (Array.mem_of_getElem? ho)) (Oper.wp_mono (fun a' w' h' => ih _ a' w' (by simpa using hL) (by omega) h') hp)
/-- the rule -/
theorem wpIn_region_inv {l n : Nat} {id : Nat} {a : Act} {w : World} (hm : P.follows .mixedOrders = true) (hnd : ∀ o ∈ ops, ∀ c, o.op ≠ .defer c) (J : Array Bool → Act → World → Prop)
    (h0 : J (Array.replicate ops.size false) a w.drew)
    (hs : ∀ (i : Nat) (L : Array Bool) (a : Act) (w : World), J L a w → i ∈ Region.ready .any ops L → ∃ o, ops[i]? = some o ∧ Region.wanted o (yielded ops a.tmps) = true ∧ o.wp P a w (J (L.setIfInBounds i true)) Q)
    (hd : ∀ (L : Array Bool) (a : Act) (w : World), J L a w → Region.ready .any ops L = [] → Q .normal a w) : (Code.region id ops true).wpIn (Fence.wide.inRound l) n P Q a w :=
  wpIn_region_any hm (wpAnyIn_inv hnd J hs hd ops.size _ a _ (by simp) (by simp [List.countP_replicate]) h0)
end
end Go
namespace Go.Proofs.Ytehoaenkkmmobaa
open Go.RowKit
theorem heap_pos {W : World} {v : Value} {p : Addr} (h : W.cell? p = some v) : p.block < W.heap.size := by
  rcases Nat.lt_or_ge p.block W.heap.size with h' | h'
  · exact h'
  · simp [World.cell?, Array.getElem?_eq_none h'] at h
/-- what the row says of a slice of integers: it is nil, or it leads to a row of cells -/
def IsRow (k : IntKind) (w : World) (a : Option Addr) (len cap : Nat) (zs : List Int) : Prop :=
  (a = none ∧ len = 0 ∧ cap = 0 ∧ zs = []) ∨
  ∃ x, a = some x ∧ len ≤ cap ∧ cap ≤ maxLen ∧ zs.length = cap ∧ (∀ i, i < zs.length → w.cell? (x.add i) = some (.int k (zs.getD i 0))) ∧ ∀ n ∈ zs, (Lit.int k n).wf = true
theorem row_ints {w : World} {a : Option Addr} {len cap : Nat} {zs : List Int} (h : IsRow .i64 w a len cap zs) :
    ∃ xs : List Int, xs.length = len ∧ IntsR w w.heap.size a xs ∧ xs.length ≤ maxLen ∧ xs.length ≤ cap ∧ ∀ n ∈ xs, (Lit.int .i64 n).wf = true := by
  rcases h with ⟨rfl, rfl, rfl, rfl⟩ | ⟨x, rfl, hl, hm, hz, hc, hw⟩
  · exact ⟨[], rfl, IntsR.nil, Nat.zero_le _, Nat.zero_le _, fun n hn => by cases hn⟩
  · have hlen : (zs.take len).length = len := by rw [List.length_take]; omega
    refine ⟨zs.take len, hlen, fun h0 => ⟨x, rfl, ?_, fun j hj => ?_⟩, by omega, by omega, fun n hn => hw n (List.mem_of_mem_take hn)⟩
    · have := heap_pos (hc 0 (by omega))
      rwa [block_of_add] at this
    · rw [hc j (by omega)]
      congr 2
      simp only [nth]
      rw [List.getElem?_take_of_lt (by omega)]
      simp [List.getD_eq_getElem?_getD]
end Go.Proofs.Ytehoaenkkmmobaa
namespace Go.Proofs.Ytehoaenkkmmobaa
/-- the place of the least of v 0 .. v i, the first of them -/
def bst (v : Nat → Nat) : Nat → Nat
  | 0 => 0
  | i + 1 => if v (i + 1) < v (bst v i) then i + 1 else bst v i
theorem bst_le (v : Nat → Nat) : ∀ i, bst v i ≤ i
  | 0 => Nat.le_refl _
  | i + 1 => by
    rw [bst]
    split
    · exact Nat.le_refl _
    · have := bst_le v i; omega
theorem bst_least (v : Nat → Nat) : ∀ i j, j ≤ i → v (bst v i) ≤ v j
  | 0, j, h => by obtain rfl : j = 0 := by omega
                  exact Nat.le_refl _
  | i + 1, j, h => by
    rw [bst]
    rcases Nat.lt_or_ge j (i + 1) with h1 | h1
    · have := bst_least v i j (by omega)
      split <;> omega
    · obtain rfl : j = i + 1 := by omega
      split <;> omega
theorem bst_first (v : Nat → Nat) : ∀ i j, j < bst v i → v (bst v i) < v j
  | 0, j, h => by rw [bst] at h; omega
  | i + 1, j, h => by
    rw [bst] at h ⊢
    by_cases hq : v (i + 1) < v (bst v i)
    · rw [if_pos hq] at h ⊢
      have := bst_least v i j (by omega)
      omega
    · rw [if_neg hq] at h ⊢
      exact bst_first v i j h
/-- a weighing by its number: three sides, the first weight's first -/
def sidesOf (w n : Nat) : List Int := (dig 3 w n).map (fun d => d - 1)
theorem sidesOf_length (w n : Nat) : (sidesOf w n).length = w := by rw [sidesOf, List.length_map, dig_length]
theorem sidesOf_at {w n i : Nat} (h : i < w) : nth (sidesOf w n) i = nth (dig 3 w n) i - 1 := by
  rw [nth_lt (by rw [sidesOf_length]; exact h), nth_lt (by rw [dig_length]; exact h)]
  simp [sidesOf]
theorem sidesOf_bounds {w n i : Nat} (h : i < w) : -1 ≤ nth (sidesOf w n) i ∧ nth (sidesOf w n) i ≤ 1 := by
  have := dig_bounds (s := 3) (by decide) w n (nth (dig 3 w n) i) (by rw [nth_lt (by rw [dig_length]; exact h)]; exact List.getElem_mem _)
  rw [sidesOf_at h]
  omega
theorem sidesOf_surj {w : Nat} {l : List Int} (hl : l.length = w) (h : ∀ d ∈ l, -1 ≤ d ∧ d ≤ 1) : ∃ n, n < 3 ^ w ∧ sidesOf w n = l := by
  obtain ⟨n, h1, h2⟩ := dig_surj (s := 3) w (l.map (fun d => d + 1)) (by rw [List.length_map, hl]) (fun d hd => by
    obtain ⟨x, hx, rfl⟩ := List.mem_map.1 hd
    have := h x hx
    constructor <;> omega)
  refine ⟨n, h1, ?_⟩
  rw [sidesOf, h2, List.map_map]
  conv => rhs; rw [← List.map_id l]
  exact List.map_congr_left (fun x _ => by simp)
/-- the sum of what k weights weigh, each on its side -/
def tipT (ws ss : List Int) : Nat → Int
  | 0 => 0
  | k + 1 => tipT ws ss k + nth ss k * nth ws k
def tipL (ws ss : List Int) (load : Int) : Int := -load + tipT ws ss ws.length
def usedL (ss : List Int) : Nat := (ss.filter (fun s => s != 0)).length
def usedT (ss : List Int) (k : Nat) : Nat := usedL (ss.take k)
theorem usedT_succ {ss : List Int} {k : Nat} (h : k < ss.length) : usedT ss (k + 1) = usedT ss k + if ss[k] = 0 then 0 else 1 := by
  rw [usedT, usedT, usedL, usedL, List.take_succ_eq_append_getElem h, List.filter_append, List.length_append]
  by_cases e : ss[k] = 0 <;> simp [e]
theorem usedT_all (ss : List Int) : usedT ss ss.length = usedL ss := by rw [usedT, List.take_length]
/-- the weighings, in order -/
def wgs (ws : List Int) (load : Int) : List (List Int) := ((List.range (3 ^ ws.length)).map (sidesOf ws.length)).filter (fun s => tipL ws s load == 0)
theorem wgs_mem {ws : List Int} {load : Int} {ss : List Int} : ss ∈ wgs ws load ↔ (∃ n, n < 3 ^ ws.length ∧ sidesOf ws.length n = ss) ∧ tipL ws ss load = 0 := by
  rw [wgs, List.mem_filter, List.mem_map]
  constructor
  · rintro ⟨⟨n, h1, h2⟩, h3⟩
    exact ⟨⟨n, List.mem_range.1 h1, h2⟩, by simpa using h3⟩
  · rintro ⟨⟨n, h1, h2⟩, h3⟩
    exact ⟨⟨n, List.mem_range.2 h1, h2⟩, by simpa using h3⟩
theorem wgs_len (ws : List Int) (load : Int) : (wgs ws load).length ≤ 3 ^ ws.length := by
  refine Nat.le_trans (List.length_filter_le _ _) ?_
  simp
/-- which of a list is the first of the cheapest -/
def cheapAt (cost : List Int → Nat) (xs : List (List Int)) (k : Nat) : List Int := xs.getD (bst (fun i => cost (xs.getD i [])) k) []
def cheap (cost : List Int → Nat) (xs : List (List Int)) : List Int := cheapAt cost xs (xs.length - 1)
theorem cheap_mem {cost : List Int → Nat} {xs : List (List Int)} (h : 0 < xs.length) : cheap cost xs ∈ xs := by
  have hb : bst (fun i => cost (xs.getD i [])) (xs.length - 1) < xs.length := by
    have := bst_le (fun i => cost (xs.getD i [])) (xs.length - 1)
    omega
  rw [cheap, cheapAt, List.getD_eq_getElem?_getD, List.getElem?_eq_getElem hb]
  exact List.getElem_mem hb
theorem cheap_least {cost : List Int → Nat} {xs : List (List Int)} {x : List Int} (h : x ∈ xs) : cost (cheap cost xs) ≤ cost x := by
  obtain ⟨i, hi, rfl⟩ := List.getElem_of_mem h
  have := bst_least (fun i => cost (xs.getD i [])) (xs.length - 1) i (by omega)
  simp only [List.getD_eq_getElem?_getD, List.getElem?_eq_getElem hi] at this
  rw [cheap, cheapAt, List.getD_eq_getElem?_getD]
  exact this
/-- one more list -/
theorem cheapAt_succ (cost : List Int → Nat) (xs : List (List Int)) (k : Nat) : cheapAt cost xs (k + 1) = if cost (xs.getD (k + 1) []) < cost (cheapAt cost xs k) then xs.getD (k + 1) [] else cheapAt cost xs k := by
  have e : cheapAt cost xs k = xs.getD (bst (fun i => cost (xs.getD i [])) k) [] := rfl
  rw [e, cheapAt, bst]
  by_cases h : cost (xs.getD (k + 1) []) < cost (xs.getD (bst (fun i => cost (xs.getD i [])) k) [])
  · simp only [if_pos h]
  · simp only [if_neg h]
end Go.Proofs.Ytehoaenkkmmobaa
namespace Go.Proofs.Ytehoaenkkmmobaa
open Go.RowKit Go.Shelf
def fstErr : List Int → Int
  | [] => 0
  | e :: r => if e = 0 then fstErr r else e
theorem fstErr_drop (es : List Int) (k : Nat) (hk : k < es.length) : fstErr (es.drop k) = if nth es k = 0 then fstErr (es.drop (k + 1)) else nth es k := by
  rw [List.drop_eq_getElem_cons hk, fstErr, nth_lt hk]
set_option maxHeartbeats 400000 in
theorem first_any (A : Option Addr) (c : Nat) (es : List Int) (w : World) (hx : IntsR w w.heap.size A es) (hl : es.length ≤ maxLen) :
    Calls Try.prog 54 #[.slice A es.length c] w fun e w' => e = .returned (.int .i64 (fstErr es)) ∧ w = w' := by
  unfold maxLen at hl
  go_enter Try.func54, Try.ntmps54
  go_wp2
  go_loop [7] (fun i => ∃ k : Nat, k ≤ es.length ∧ i = .int .i64 k ∧ Hid (fstErr es = fstErr (es.drop k))) (fun i => es.length - (intOf i).toNat)
  case atStart => exact ⟨0, Nat.zero_le _, rfl, Lib.hid rfl⟩
  case round =>
    obtain ⟨k, hk, rfl, hall⟩ := hrel
    by_cases hlt : k < es.length
    · obtain ⟨ad, rfl, hb, hc⟩ := hx.at_ hlt
      have hd := Lib.hid (fstErr_drop es k hlt)
      by_cases he : nth es k = 0
      · have hb0 : (nth es k != 0) = false := by simp [he]
        have HE := Lib.hid he
        clear he
        go_wp2
        go_round
        case rel => exact ⟨k + 1, by omega, by go_num, Lib.hid (by rw [hall.out, hd.out, if_pos HE.out])⟩
        case measure => simp [intOf]; omega
      · have hb0 : (nth es k != 0) = true := by simpa using he
        have HE := Lib.hid he
        clear he
        go_wp2
        go_ret
        exact ⟨ret_int (by rw [hall.out, hd.out, if_neg HE.out]), rfl⟩
    · obtain rfl : k = es.length := by omega
      go_wp2
      go_ret
      exact ⟨ret_int (by rw [hall.out, List.drop_length]; rfl), rfl⟩
/-- a slice of slices of integers -/
def SlsR (w : World) (B : Nat) (A : Option Addr) (xss : List (List Int)) : Prop :=
  0 < xss.length → ∃ ad, A = some ad ∧ ad.block < B ∧ ∀ j (h : j < xss.length), ∃ A' c', w.cell? (ad.add j) = some (.slice A' (xss[j]).length c') ∧ IntsR w B A' xss[j] ∧ (xss[j]).length ≤ maxLen
theorem SlsR.below {w w' : World} {B B' : Nat} {A : Option Addr} {xss : List (List Int)} (h : SlsR w B A xss) (hb : Below B' w w') (hB : B ≤ B') : SlsR w' B A xss := fun h0 => by
  obtain ⟨ad, e, hl, hc⟩ := h h0
  refine ⟨ad, e, hl, fun j hj => ?_⟩
  obtain ⟨A', c', h1, h2, h3⟩ := hc j hj
  exact ⟨A', c', (hb.cell (by rw [block_of_add]; omega)).trans h1, h2.below hb hB, h3⟩
theorem SlsR.more {w : World} {B B' : Nat} {A : Option Addr} {xss : List (List Int)} (h : SlsR w B A xss) (hB : B ≤ B') : SlsR w B' A xss := fun h0 => by
  obtain ⟨ad, e, hl, hc⟩ := h h0
  refine ⟨ad, e, by omega, fun j hj => ?_⟩
  obtain ⟨A', c', h1, h2, h3⟩ := hc j hj
  exact ⟨A', c', h1, h2.more hB, h3⟩
theorem kept_ints {w1 W : World} {A : Option Addr} {x : List Int} (h : KeptS w1 W) (hx : IntsR w1 w1.heap.size A x) : IntsR W W.heap.size A x := (hx.below h.1 (Nat.le_refl _)).more h.1.size
theorem ints_call {w1 W : World} {A : Option Addr} {x : List Int} (h : Below w1.heap.size w1 W) (hx : IntsR w1 w1.heap.size A x) : IntsR W W.heap.size A x := (hx.below h (Nat.le_refl _)).more h.size
theorem sls_call {w1 W : World} {A : Option Addr} {x : List (List Int)} (h : Below w1.heap.size w1 W) (hx : SlsR w1 w1.heap.size A x) : SlsR W W.heap.size A x := (hx.below h (Nat.le_refl _)).more h.size
/-- integers in a new block -/
theorem ints_new (w : World) (xs : List Int) (t : TypeId) : IntsR (w.alloc (.cells (xs.map I).toArray t)) (w.alloc (.cells (xs.map I).toArray t)).heap.size (some ⟨w.heap.size, 0, none⟩) xs := fun _ => by
  refine ⟨_, rfl, by simp, fun j hj => ?_⟩
  have : (⟨w.heap.size, 0, none⟩ : Addr).add j = ⟨w.heap.size, j, none⟩ := by unfold Addr.add; split <;> simp_all
  rw [this, alloc_cell, nth_lt hj]
  simp [hj]
theorem all_take_snocL {α : Type} (p : α → Bool) (xs : List α) (k : Nat) (hk : k < xs.length) (h : (xs.take k).all p = true) (hp : p xs[k] = true) : (xs.take (k + 1)).all p = true := by
  rw [List.take_succ_eq_append_getElem hk, List.all_append, h]
  simpa using hp
theorem not_allL {α : Type} (p : α → Bool) (xs : List α) (k : Nat) (hk : k < xs.length) (hp : p xs[k] = false) : xs.all p = false := by
  rw [List.all_eq_false]
  exact ⟨_, List.getElem_mem hk, by simpa using hp⟩
theorem made_zeros (n : Nat) : madeCells #[Value.int .i64 0] n = ((List.replicate n (0 : Int)).map I).toArray := by
  apply Array.ext (by simp [size_madeCells])
  intro i h1 h2
  rw [size_madeCells] at h1
  simp [madeCells, Nat.mod_one]
theorem cells_set (p : Nat) (tail : List Int) (d : Int) : ((((List.replicate (p + 1) (0 : Int)) ++ tail).map I).toArray).setIfInBounds p (I d) = ((List.replicate p (0 : Int) ++ d :: tail).map I).toArray := by
  rw [List.replicate_succ']
  apply Array.toList_inj.1
  simp
theorem two_boxes (w : World) (a b : Obj) : Below w.heap.size w ((w.alloc a).alloc b) := ((Below.refl _ _).alloc (Nat.le_refl _) _).alloc (by simp) _
end Go.Proofs.Ytehoaenkkmmobaa
namespace Go.Proofs.Ytehoaenkkmmobaa
open Go.RowKit
section
variable {w w' : World} {base : Nat} {v u : Value}
/-- a list of lists, its blocks from base on -/
def Lists (w : World) (base : Nat) (v : Value) (xss : List (List Int)) : Prop :=
  ∃ vs : List Value, w.ownsRow base 26 1 v xss.length vs ∧ ∀ j (h : j < xss.length), ∃ u, vs[j]? = some u ∧ w.ownsRow base 3 1 u xss[j].length (xss[j].map I)
theorem Lists.nil (w : World) (base : Nat) : Lists w base (.slice none 0 0) [] := ⟨[], World.ownsRow_nil _ _ _ _, fun j h => absurd h (Nat.not_lt_zero j)⟩
theorem own_grown {e : TypeId} {s n : Nat} {xs : List Value} (h : w.ownsRow base e s v n xs) (hg : w.grownBy w' none) : w'.ownsRow base e s v n xs := h.kept hg (by cases v.ownBlock <;> simp)
theorem grown_of_below {B : Nat} (h : Below B w w') (hB : w.heap.size ≤ B) : w.grownBy w' none := ⟨h.os, h.tape, h.output, h.size, fun k hk _ => h.block k (by omega)⟩
theorem Lists.grown {xss : List (List Int)} (h : Lists w base v xss) (hg : w.grownBy w' none) : Lists w' base v xss := by
  obtain ⟨vs, h1, h2⟩ := h
  refine ⟨vs, own_grown h1 hg, fun j hj => ?_⟩
  obtain ⟨u, e, h3⟩ := h2 j hj
  exact ⟨u, e, own_grown h3 hg⟩
theorem Lists.below {B : Nat} {xss : List (List Int)} (h : Lists w base v xss) (hb : Below B w w') (hB : w.heap.size ≤ B) : Lists w' base v xss := h.grown (grown_of_below hb hB)
theorem own_apart {e1 e2 : TypeId} {s1 s2 n m b1 b2 : Nat} {xs ys : List Value} (h1 : w.ownsRow b1 e1 s1 v n xs) (h2 : w.ownsRow b2 e2 s2 u m ys) (he : e1 ≠ e2) : u.ownBlock = none ∨ u.ownBlock ≠ v.ownBlock := by
  rcases h2.2 with ⟨rfl, _⟩ | ⟨g, cap, cur, rfl, _, hg, _⟩
  · exact .inl rfl
  · rcases h1.2 with ⟨rfl, _⟩ | ⟨g', cap', cur', rfl, _, hg', _⟩
    · exact .inr (by simp [Value.ownBlock])
    · refine .inr ?_
      simp only [Value.ownBlock, ne_eq, Option.some.injEq]
      rintro rfl
      rw [hg] at hg'
      injection hg' with hg'
      injection hg' with _ hg'
      exact he hg'.symm
theorem ne_types : 26 ≠ 3 := by decide
theorem snoc_lists {w2 : World} {v' : Value} {xss : List (List Int)} {x : List Int} {vs : List Value} (hown : w.ownsRow base 26 1 v xss.length vs)
    (hin : ∀ j (h : j < xss.length), ∃ u, vs[j]? = some u ∧ w.ownsRow base 3 1 u xss[j].length (xss[j].map I)) (hu : w.ownsRow base 3 1 u x.length (x.map I))
    (h2 : w.grownBy w2 none) (hown' : w'.ownsRow base 26 1 v' (xss.length + 1) (vs ++ [u])) (hgrow : w2.grownBy w' v.ownBlock) : Lists w' base v' (xss ++ [x]) := by
  have hlen : vs.length = xss.length := by have := hown.1; omega
  have hv2 := own_grown hown h2
  refine ⟨vs ++ [u], by simpa using hown', fun j hj => ?_⟩
  by_cases hlt : j < xss.length
  · obtain ⟨y, e, h3⟩ := hin j hlt
    rw [List.getElem_append_left hlt]
    exact ⟨y, by rw [List.getElem?_append_left (by omega)]; exact e, (own_grown h3 h2).kept hgrow (own_apart hv2 (own_grown h3 h2) ne_types)⟩
  · have hj' : j = xss.length := by simp at hj; omega
    subst hj'
    refine ⟨u, by rw [List.getElem?_append_right (by omega)]; simp [hlen], ?_⟩
    simp only [List.getElem_append_right (Nat.le_refl _), Nat.sub_self, List.getElem_cons_zero]
    exact (own_grown hu h2).kept hgrow (own_apart hv2 (own_grown hu h2) ne_types)
theorem own_ints {x : List Int} (h : w.ownsRow base 3 1 u x.length (x.map I)) : ∃ (A : Option Addr) (c : Nat), u = .slice A x.length c ∧ IntsR w w.heap.size A x ∧ x.length ≤ maxLen := by
  rcases h.2 with ⟨rfl, h0⟩ | ⟨g, cap, cur, rfl, _, hg, h1, h2, h3, h4⟩
  · exact ⟨none, 0, by rw [h0], fun h => absurd h (by omega), by omega⟩
  · refine ⟨some ⟨g, 0, none⟩, cap, rfl, fun h0 => ⟨_, rfl, (Array.getElem?_eq_some_iff.1 hg).1, fun j hj => ?_⟩, by omega⟩
    have hadd : (⟨g, 0, none⟩ : Addr).add j = ⟨g, j, none⟩ := by unfold Addr.add; split <;> simp_all
    rw [hadd, nth_lt hj]
    have hc : w.cell? ⟨g, j, none⟩ = cur[j]? := by
      have hg' : w.heap[g]? = some (.cells cur.toList.toArray 3 (0, 0)) := by simpa using hg
      have := cell_of_row w g j _ _ _ hg'
      simpa using this
    rw [hc, ← Array.getElem?_toList]
    have h5 : (cur.toList.take (x.length * 1))[j]? = some (I x[j]) := by rw [h4]; simp [hj]
    rwa [List.getElem?_take_of_lt (by omega)] at h5
theorem Lists.sls {xss : List (List Int)} (h : Lists w base v xss) : ∃ (A : Option Addr) (c : Nat), v = .slice A xss.length c ∧ SlsR w w.heap.size A xss ∧ xss.length ≤ maxLen ∧ xss.length ≤ c := by
  obtain ⟨vs, hown, hin⟩ := h
  rcases hown.2 with ⟨rfl, h0⟩ | ⟨g, cap, cur, rfl, _, hg, h1, h2, h3, h4⟩
  · exact ⟨none, 0, by rw [h0], fun h => absurd h (by omega), by omega, by omega⟩
  · refine ⟨some ⟨g, 0, none⟩, cap, rfl, fun h0 => ⟨_, rfl, (Array.getElem?_eq_some_iff.1 hg).1, fun j hj => ?_⟩, by omega, h1⟩
    obtain ⟨u, e, h5⟩ := hin j hj
    obtain ⟨A, c, rfl, hi, hm⟩ := own_ints h5
    refine ⟨A, c, ?_, hi, hm⟩
    have hadd : (⟨g, 0, none⟩ : Addr).add j = ⟨g, j, none⟩ := by unfold Addr.add; split <;> simp_all
    rw [hadd]
    have hc : w.cell? ⟨g, j, none⟩ = cur[j]? := by
      have hg' : w.heap[g]? = some (.cells cur.toList.toArray 26 (0, 0)) := by simpa using hg
      have := cell_of_row w g j _ _ _ hg'
      simpa using this
    rw [hc, ← Array.getElem?_toList]
    rw [← h4] at e
    rwa [List.getElem?_take_of_lt (by omega)] at e
theorem own_base {b e s n : Nat} {xs : List Value} (h : w.ownsRow base e s v n xs) (hb : b ≤ base) : w.ownsRow b e s v n xs := by
  refine ⟨h.1, ?_⟩
  rcases h.2 with h0 | ⟨g, cap, cur, h1, h2, h3⟩
  · exact .inl h0
  · exact .inr ⟨g, cap, cur, h1, by omega, h3⟩
theorem Lists.rebase {b : Nat} {xss : List (List Int)} (h : Lists w base v xss) (hb : b ≤ base) : Lists w b v xss := by
  obtain ⟨vs, h1, h2⟩ := h
  refine ⟨vs, own_base h1 hb, fun j hj => ?_⟩
  obtain ⟨u, e, h3⟩ := h2 j hj
  exact ⟨u, e, own_base h3 hb⟩
/-- a full block is owned -/
theorem own_block {g : Nat} {x : List Int} (hg : w.heap[g]? = some (.cells (x.map I).toArray 3 (0, 0))) (hb : base ≤ g) (hl : x.length ≤ maxLen) : w.ownsRow base 3 1 (.slice (some ⟨g, 0, none⟩) x.length x.length) x.length (x.map I) :=
  ⟨by simp, .inr ⟨g, x.length, _, rfl, hb, hg, Nat.le_refl _, hl, by simp, by simp [List.take_of_length_le]⟩⟩
/-- what 'make' made, cell by cell -/
theorem block_own {g n : Nat} {e : TypeId} {xs : List Value} (h : w.ownsRow base e 1 (.slice (some ⟨g, 0, none⟩) n n) n xs) : w.heap[g]? = some (.cells xs.toArray e (0, 0)) := by
  rcases h.2 with ⟨h0, _⟩ | ⟨g', cap, cur, h0, _, hg, h1, h2, h3, h4⟩
  · exact absurd h0 (by simp)
  · injection h0 with h0 _ h5
    injection h0 with h0
    injection h0 with h0
    subst h0 h5
    rw [hg, ← h4, List.take_of_length_le (by simp; omega)]
theorem ints_block {g : Nat} {t : TypeId} {x : List Int} (hg : w.heap[g]? = some (.cells (x.map I).toArray t (0, 0))) : IntsR w w.heap.size (some ⟨g, 0, none⟩) x := fun h0 => by
  refine ⟨_, rfl, (Array.getElem?_eq_some_iff.1 hg).1, fun j hj => ?_⟩
  have hadd : (⟨g, 0, none⟩ : Addr).add j = ⟨g, j, none⟩ := by unfold Addr.add; split <;> simp_all
  rw [hadd, cell_of_row w g j _ _ _ hg, nth_lt hj]
  simp [hj]
end
theorem info_sl : (Try.prog.info? 26).map (fun i => (i.zero, i.size, i.bytes)) = some (some (.slice none 0 0), 1, 24) := by kernel_rfl
theorem info_int : (Try.prog.info? 3).map (fun i => (i.zero, i.size, i.bytes)) = some (some (.int .i64 0), 1, 8) := by kernel_rfl
end Go.Proofs.Ytehoaenkkmmobaa
namespace Go.Proofs.Ytehoaenkkmmobaa
open Go.ChangeShapes Go.WideShapes Go.ChangeAt Go.RowKit Go.Joins Go.Deep
theorem onePress : oneCellFields Try.prog #[⟨"Heard", 3, 0, false, "", "", 0⟩, ⟨"Key", 3, 1, false, "", "", 8⟩] = true := by kernel_rfl
theorem cellsInt : Try.prog.cellsOf 3 = 1 := by kernel_rfl
theorem oneKey : oneCellFields Try.prog #[⟨"N", 3, 0, false, "", "", 0⟩, ⟨"Word", 9, 1, false, "", "", 8⟩, ⟨"Back", 4, 2, false, "", "", 24⟩] = true := by kernel_rfl
end Go.Proofs.Ytehoaenkkmmobaa
namespace Go.Proofs.Ytehoaenkkmmobaa
open Go.RowKit Go.Shelf
theorem only_drewN {a w : World} {row : Option Nat} (h : a.grownBy w row) (n : Nat) : a.grownBy (w.drewN n) row := ⟨h.os, h.tape, h.output, h.size, h.block⟩
theorem only_drew {a w : World} {row : Option Nat} (h : a.grownBy w row) : a.grownBy w.drew row := ⟨h.os, h.tape, h.output, h.size, h.block⟩
theorem only_setCell {a w : World} {g : Nat} (h : a.grownBy w (some g)) {p : Addr} (hp : p.block = g ∨ a.heap.size ≤ p.block) (u : Value) : a.grownBy (w.setCell p u) (some g) :=
  ⟨h.os, h.tape, h.output, by simpa [World.setCell] using h.size, fun i hi hne => (Below.heap_setCell w p u i (by
    rintro rfl
    rcases hp with hp | hp
    · exact hne (by rw [hp])
    · omega)).trans (h.block i hi hne)⟩
theorem nth_beyond {c : List Int} {j : Nat} (h : c.length ≤ j) : nth c j = 0 := by simp [nth, List.getElem?_eq_none h]
/-- the digits of the next number -/
theorem adv_next {s : Nat} (hs : 1 < s) (w n i : Nat) (hn : n < s ^ w) (hi : i < w) (h1 : nth (dig s w n) i + 1 < s) (h2 : ∀ j, i < j → j < w → nth (dig s w n) j + 1 = s) :
    n + 1 < s ^ w ∧ ∀ j, nth (dig s w (n + 1)) j = if j = i then nth (dig s w n) i + 1 else if i < j then 0 else nth (dig s w n) j := by
  have hlt : n + 1 < s ^ w := by
    rcases Nat.lt_or_ge (n + 1) (s ^ w) with h | h
    · exact h
    · have e : n + 1 = s ^ w := by omega
      have := dig_last hs w n e i hi
      simp only [nth] at h1
      omega
  refine ⟨hlt, ?_⟩
  obtain ⟨k, hk, a1, a2, a3, a4⟩ := dig_succ hs w n hlt
  have hki : k = i := by
    rcases Nat.lt_trichotomy k i with h | h | h
    · have := (a4 i h hi).1
      simp only [nth] at h1
      omega
    · exact h
    · have := h2 k h hk
      simp only [nth] at this
      omega
  subst hki
  intro j
  by_cases e1 : j = k
  · subst e1; rw [if_pos rfl]; exact a2
  · rw [if_neg e1]
    by_cases e2 : k < j
    · rw [if_pos e2]
      by_cases e3 : j < w
      · exact (a4 j e2 e3).2
      · exact nth_beyond (by rw [dig_length]; omega)
    · rw [if_neg e2]; exact a1 j (by omega)
theorem adv_last {s : Nat} (hs : 1 < s) (w n : Nat) (hn : n < s ^ w) (h2 : ∀ j, j < w → nth (dig s w n) j + 1 = s) : n + 1 = s ^ w := by
  rcases Nat.lt_or_ge (n + 1) (s ^ w) with h | h
  · obtain ⟨k, hk, _, _, a3, _⟩ := dig_succ hs w n h
    have := h2 k hk
    simp only [nth] at this
    omega
  · omega
/-- a row by its cells -/
def rowG (lo : Int) (f : Nat → Int) (W : Nat) : List Value := (List.range W).map (fun j => I (f j + lo))
theorem rowG_at (lo : Int) (f : Nat → Int) (W k : Nat) (h : k < W) : (rowG lo f W).toArray[k]? = some (I (f k + lo)) := by simp [rowG, h]
theorem rowG_set (lo : Int) (f : Nat → Int) (W k : Nat) (v : Int) : (rowG lo f W).toArray.setIfInBounds k (I (v + lo)) = (rowG lo (fun j => if j = k then v else f j) W).toArray := by
  apply Array.toList_inj.1
  simp only [Array.toList_setIfInBounds]
  refine List.ext_getElem (by simp [rowG]) fun i h1 h2 => ?_
  simp only [List.getElem_set, rowG, List.getElem_map, List.getElem_range]
  by_cases e : k = i
  · subst e; simp
  · rw [if_neg e, if_neg (fun q => e q.symm)]
theorem rowG_congr (lo : Int) (f g : Nat → Int) (W : Nat) (h : ∀ j, j < W → f j = g j) : rowG lo f W = rowG lo g W :=
  List.map_congr_left fun j hj => by rw [h j (by simpa using hj)]
end Go.Proofs.Ytehoaenkkmmobaa
namespace Go.Proofs.Ytehoaenkkmmobaa
open Go.ChangeShapes Go.WideShapes Go.ChangeAt Go.RowKit Go.Joins Go.Deep
section
variable {H : Type} {enc : TypeId × Value → H} {W : World} {fuel : Nat}
theorem open_ints_cells {cs : List Value} {x : DataW H × List MemPlace} (hf : DataW.trod enc Try.prog W 0 (fun _ => true) true fuel 26 cs = some x) :
    ∃ (A : Option Addr) (c : Nat) (xs : List Int), cs = [.slice A xs.length c] ∧ IntsR W W.heap.size A xs ∧ xs.length ≤ maxLen := by
  rcases open_ints Try.underlying26 Try.underlying3 cellsInt hf with ⟨rfl, _⟩ | ⟨a, len, cap, zs, rfl, _, hl, hm, hz, _, hcell, _⟩
  · exact ⟨none, 0, [], rfl, fun h => absurd h (Nat.lt_irrefl 0), Nat.zero_le _⟩
  · simp only [if_true] at hz
    have hlen : (zs.take len).length = len := by simp; omega
    refine ⟨some a, cap, zs.take len, by rw [hlen], fun h0 => ⟨a, rfl, ?_, fun j hj => ?_⟩, by rw [hlen]; omega⟩
    · have := heap_pos (hcell 0 (by omega))
      rwa [block_of_add] at this
    · rw [hlen] at hj
      rw [hcell j (by omega)]
      simp [nth, hj, List.getD]
theorem cellsSl : Try.prog.cellsOf 26 = 1 := by kernel_rfl
theorem five_of {cs : List Value} (h : cs.length = 5) : ∃ a b c d e, cs = [a, b, c, d, e] := by
  match cs, h with
  | [a, b, c, d, e], _ => exact ⟨a, b, c, d, e, rfl⟩
end
end Go.Proofs.Ytehoaenkkmmobaa
namespace Go.Proofs.Ytehoaenkkmmobaa
open Go.RowKit Go.Shelf
abbrev balV (A : Option Addr) (c : Nat) (ws : List Int) (load : Int) : Value := .agg #[.slice A ws.length c, I load]
def balB (ws : List Int) (load : Int) : Bool := decide (ws.length ≤ 10) && inB 1 10000 ws && wi load 0 10000
theorem usedT_nth {ss : List Int} {k : Nat} (h : k < ss.length) : usedT ss (k + 1) = usedT ss k + if nth ss k = 0 then 0 else 1 := by rw [usedT_succ h, nth_lt h]
theorem usedT_le (ss : List Int) (k : Nat) : usedT ss k ≤ k := by
  rw [usedT, usedL]
  exact Nat.le_trans (List.length_filter_le _ _) (by simp; omega)
theorem tip_mul {s x : Int} (h1 : -1 ≤ s) (h2 : s ≤ 1) (h3 : 1 ≤ x) (h4 : x ≤ 10000) : -10000 ≤ s * x ∧ s * x ≤ 10000 := by
  obtain rfl | rfl | rfl : s = -1 ∨ s = 0 ∨ s = 1 := by omega
  all_goals constructor <;> omega
theorem tipT_step (ws ss : List Int) (k : Nat) : tipT ws ss (k + 1) = tipT ws ss k + nth ss k * nth ws k := rfl
end Go.Proofs.Ytehoaenkkmmobaa
