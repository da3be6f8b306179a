/-
  PURE FACTS for the law PuzzlesDry; the contract of solves.
-/
import Derived.Test.YtglkjiimmlobbaaPzPlm
import Derived.Test.YtglkjiimmlobbaaPzLgtPure
import Derived.Test.YtglkjiimmlobbaaPzHas
namespace Go.Proofs.Ytglkjiimmlobbaa
open Go.RowKit Go.Shelf
theorem turns_lt {n a b : Nat} (h : a < b) (hb : b < 4 ^ n) : LtN (dig 4 n a) (dig 4 n b) n := dig_lt (s := 4) n a b h hb
theorem allT_sorted (n : Nat) : (allT n).Pairwise (fun a b => LtN a b n) := by
  rw [List.pairwise_iff_getElem]
  intro i j hi hj hij
  rw [allT_at, allT_at]
  exact turns_lt hij (by rw [allT_length] at hj; exact hj)
theorem plb_sorted (W H N fr tt : Nat) (ps : List Int) : (plbL W H N fr tt ps).Pairwise (fun a b => LtN a b N) := (allT_sorted _).sublist List.filter_sublist
theorem first_of {cost : List Int → Nat} {xs : List (List Int)} {ss : List Int} {n : Nat} (hs : xs.Pairwise (fun a b => LtN a b n)) (h : ss ∈ xs) (hu : cost ss ≤ cost (cheap cost xs)) (hne : ss ≠ cheap cost xs) : LtN (cheap cost xs) ss n := by
  obtain ⟨q, hq, rfl⟩ := List.getElem_of_mem h
  rw [List.pairwise_iff_getElem] at hs
  obtain ⟨v, hv⟩ : ∃ v, v = fun i => cost (xs.getD i []) := ⟨_, rfl⟩
  obtain ⟨p, hp⟩ : ∃ p, p = bst v (xs.length - 1) := ⟨_, rfl⟩
  have hpl : p < xs.length := by have := bst_le v (xs.length - 1); omega
  have hc : cheap cost xs = xs[p] := by
    rw [cheap, cheapAt, ← hv, ← hp, List.getD_eq_getElem?_getD, List.getElem?_eq_getElem hpl]; rfl
  rw [hc] at hu hne ⊢
  have e1 : v p = cost xs[p] := by rw [hv]; simp [List.getD_eq_getElem?_getD, hpl]
  have e2 : v q = cost xs[q] := by rw [hv]; simp [List.getD_eq_getElem?_getD, hq]
  have hqp : ¬ q < p := fun hlt => by
    have := bst_first v (xs.length - 1) q (by rw [← hp]; exact hlt)
    rw [← hp] at this
    omega
  have hqp2 : q ≠ p := fun e => hne (by subst e; rfl)
  exact hs p q hpl hq (by omega)
theorem plb_iff {W H N fr tt : Nat} {ps ts : List Int} : ts ∈ plbL W H N fr tt ps ↔ (ts.length = N ∧ Nums 3 ts) ∧ solB W H N fr tt ps ts = true := by
  constructor
  · intro h
    exact ⟨⟨plb_each _ h, plb_nums _ h⟩, (List.mem_filter.1 h).2⟩
  · rintro ⟨⟨h1, h2⟩, h3⟩
    obtain ⟨k, hk, rfl⟩ := dig_surj (s := 4) N ts h1 (fun d hd => by
      obtain ⟨i, hi, rfl⟩ := List.getElem_of_mem hd
      have := h2 i hi
      rw [nth_lt hi] at this
      omega)
    exact List.mem_filter.2 ⟨List.mem_map.2 ⟨k, List.mem_range.2 hk, rfl⟩, h3⟩
theorem inB_nums {b : Nat} {l : List Int} (h : Nums b l) : inB 0 b l = true := by
  simp only [inB, List.all_eq_true, wi, Bool.and_eq_true, decide_eq_true_eq]
  intro s hs
  obtain ⟨i, hi, rfl⟩ := List.getElem_of_mem hs
  have := h i hi
  rw [nth_lt hi] at this
  exact this
theorem has_nums {T : Nat → Bool} {N t : Nat} (ht : t < N) : hasI (numsF T N) (t : Int) = T t := by
  rw [Bool.eq_iff_iff, hasI, List.contains_iff_mem, numsF, List.mem_map]
  constructor
  · rintro ⟨k, hk, e⟩
    have : k = t := by omega
    subst this
    exact (List.mem_filter.1 hk).2
  · intro h
    exact ⟨t, List.mem_filter.2 ⟨List.mem_range.2 ht, h⟩, rfl⟩
/-- what 'solves' answers -/
noncomputable def slvB (W H fr tt : Int) (ps ts : List Int) : Bool := decide (floE W H fr tt ps ts = 0) && (decide (floN W H fr tt ps ts = 0) && hasI (floL W H fr tt ps ts) tt)
theorem slv_iff {W H fr tt : Int} {ps ts : List Int} (hv : pipB W H fr tt ps = true) : slvB W H fr tt ps ts = true ↔ ts ∈ plL W H fr tt ps := by
  have hv' := hv
  obtain ⟨a, b, f, t, rfl, rfl, rfl, rfl, k1, k2, k3, k4, k5, k6, k7, k8, k9⟩ := pip_facts hv
  rw [pl_eq k8, plb_iff, slvB]
  by_cases hE : floE a b f t ps ts = 0
  · obtain ⟨h1, h2⟩ := floE_zero hE
    obtain ⟨e1, e2⟩ := flo_some hE k8
    rw [e1, e2, decide_eq_true hE, has_nums k7, Bool.true_and, solB]
    simp only [Bool.and_eq_true, decide_eq_true_eq, beq_iff_eq]
    constructor
    · rintro ⟨h3, h4⟩; exact ⟨turn_facts h2 k5, h4, h3⟩
    · rintro ⟨_, h4, h3⟩; exact ⟨h3, h4⟩
  · rw [decide_eq_false hE, Bool.false_and]
    constructor
    · intro h; cases h
    · rintro ⟨⟨h1, h2⟩, -⟩
      refine absurd (floE_ok hv' ?_) hE
      rw [turn_len k5, decide_eq_true h1, show inB 0 3 ts = true from inB_nums h2]; rfl
theorem floL_nine (W H fr tt : Int) (ps ts : List Int) : (floL W H fr tt ps ts).length ≤ 9 := by
  by_cases hE : floE W H fr tt ps ts = 0
  · obtain ⟨h1, h2⟩ := floE_zero hE
    obtain ⟨a, b, f, t, rfl, rfl, rfl, rfl, k1, k2, k3, k4, k5, k6, k7, k8, k9⟩ := pip_facts h1
    rw [floL, if_pos hE]
    have := numsF_len (wetC (a : Int).toNat (b : Int).toNat (opF ps ts ps.length) (f : Int).toNat) ps.length
    omega
  · rw [(flo_none hE).1]; exact Nat.zero_le _

set_option maxRecDepth 100000 in
set_option maxHeartbeats 2000000 in
theorem solves_any (W H fr tt : Int) (A A2 : Option Addr) (c c2 : Nat) (ps ts : List Int) (w : World) (hx : IntsR w w.heap.size A ps) (hl : ps.length ≤ maxLen) (hy : IntsR w w.heap.size A2 ts) (hl2 : ts.length ≤ maxLen) :
    Calls Try.prog 57 #[.agg #[I W, I H, .slice A ps.length c, I fr, I tt], .slice A2 ts.length c2] w fun e w' => e = .returned (.bool (slvB W H fr tt ps ts)) ∧ Below w.heap.size w w' := by
  obtain ⟨wa, ha, sa, ya, ba⟩ := one_box w (.cells #[I W, I H, .slice A ps.length c, I fr, I tt] 43)
  have f0 : wa.cell? ⟨w.heap.size, 0, none⟩ = some (I W) := cell_of_row wa _ 0 _ _ _ ya
  have f1 : wa.cell? ⟨w.heap.size, 1, none⟩ = some (I H) := cell_of_row wa _ 1 _ _ _ ya
  have f2 : wa.cell? ⟨w.heap.size, 2, none⟩ = some (.slice A ps.length c) := cell_of_row wa _ 2 _ _ _ ya
  have f3 : wa.cell? ⟨w.heap.size, 3, none⟩ = some (I fr) := cell_of_row wa _ 3 _ _ _ ya
  have f4 : wa.cell? ⟨w.heap.size, 4, none⟩ = some (I tt) := cell_of_row wa _ 4 _ _ _ ya
  have YA := Lib.hid ya
  have C1 := Flows_any W H fr tt A A2 c c2 ps ts wa (ints_call ba hx) hl (ints_call ba hy) hl2
  have hm := floL_nine W H fr tt ps ts
  have HS := Lib.hid (show slvB W H fr tt ps ts = (decide (floE W H fr tt ps ts = 0) && (decide (floN W H fr tt ps ts = 0) && hasI (floL W H fr tt ps ts) tt)) from rfl)
  generalize floL W H fr tt ps ts = L at *
  generalize floE W H fr tt ps ts = E at *
  generalize floN W H fr tt ps ts = n at *
  have hsw : w.heap.size < wa.heap.size := by omega
  clear ya hx hy sa
  go_enter Try.func57, Try.ntmps57
  go_upto_region 1 with fail
  rw [← ha]
  clear ha
  go_wp2_with fail
  refine C1.mono ?_
  rintro e w1 ⟨A3, c3, rfl, i3, hb1⟩
  have f4 : w1.cell? ⟨w.heap.size, 4, none⟩ = some (I tt) := cell_of_row w1 _ 4 _ _ _ ((hb1.block _ hsw).trans YA.out)
  have hB1 := ba.trans (hb1.mono ba.size)
  clear C1 hb1 f0 f1 f2 f3
  by_cases hE : E = 0
  · subst hE
    by_cases hn : n = 0
    · subst hn
      have HR := Lib.hid (show slvB W H fr tt ps ts = hasI L tt by rw [HS.out]; rfl)
      go_wp2_with fail
      refine (lhas_any A3 c3 L tt w1 i3 (by omega)).mono ?_
      rintro e w' ⟨rfl, rfl⟩
      go_wp2
      go_ret
      exact ⟨ret_bool HR.out.symm, hB1⟩
    · have HR := Lib.hid (show slvB W H fr tt ps ts = false by rw [HS.out, decide_eq_false hn]; simp)
      have g1 : ((n : Int) == 0) = false := by simp; exact hn
      have g2 : (n == 0) = false := by simp; exact hn
      clear hn
      go_wp2
      go_ret
      exact ⟨ret_bool HR.out.symm, hB1⟩
  · have HR := Lib.hid (show slvB W H fr tt ps ts = false by rw [HS.out, decide_eq_false hE]; rfl)
    have g1 : (E == 0) = false := by simpa using hE
    clear hE
    go_wp2
    go_ret
    exact ⟨ret_bool HR.out.symm, hB1⟩
end Go.Proofs.Ytglkjiimmlobbaa
