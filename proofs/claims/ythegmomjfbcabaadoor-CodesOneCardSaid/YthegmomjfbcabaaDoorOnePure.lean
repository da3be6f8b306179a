/-
  PURE FACTS for the law CodesOne.
-/
import Derived.Test.YthegmomjfbcabaaDoorPair
import Derived.Test.YthegmomjfbcabaaDoorShows
import Derived.Test.YthegmomjfbcabaaDoorExPure
namespace Go.Proofs.YthegmomjfbcabaaDoor
open Go.RowKit
theorem col_iff {R : List (List Int)} {w s : Nat} : col R w s = true ↔ ∃ r, r ∈ R ∧ nth r w = (s : Int) := by simp [col]
theorem full_mem {R : List (List Int)} {w t : Nat} {v : Int} : v ∈ full R w t ↔ ∃ s : Nat, s < t ∧ col R w s = true ∧ v = (s : Int) := by
  simp only [full, List.mem_map, List.mem_filter, List.mem_range]
  exact ⟨fun ⟨s, ⟨h1, h2⟩, h3⟩ => ⟨s, h1, h2, h3.symm⟩, fun ⟨s, h1, h2, h3⟩ => ⟨s, ⟨h1, h2⟩, h3.symm⟩⟩
theorem shw_length (R : List (List Int)) (W S : Nat) : (shw R W S).length = W := by simp [shw]
theorem shw_at {R : List (List Int)} {W S j : Nat} (h : j < (shw R W S).length) : (shw R W S)[j] = full R j S := by simp [shw]
theorem full_asc {R : List (List Int)} {w t k : Nat} (h : k + 1 < (full R w t).length) : (full R w t)[k] < (full R w t)[k + 1] := by
  have hp : (full R w t).Pairwise (· < ·) := by
    rw [full, List.pairwise_map]
    exact List.Pairwise.imp (fun h => by omega) (List.Pairwise.filter _ List.pairwise_lt_range)
  exact List.pairwise_iff_getElem.1 hp k (k + 1) (by omega) h (by omega)
theorem sym_nat {W S : Nat} (hS : 2 ≤ S) (hS10 : S ≤ 10) {cs : List Cl} {y : List Int} (h : y ∈ readings W S cs) {i : Nat} (hi : i < W) : ∃ s : Nat, s < S ∧ nth y i = s := by
  have := (rd_mem hS hS10 h).2.2.1 i hi
  exact ⟨(nth y i).toNat, by omega, by omega⟩
theorem one_code {W S : Nat} (hS : 2 ≤ S) (hS10 : S ≤ 10) {cs : List Cl} {y : List Int} (h : y ∈ readings W S cs) {i : Nat} (hi : i < W) : nth y i ∈ full (readings W S cs) i S := by
  obtain ⟨s, h1, h2⟩ := sym_nat hS hS10 h hi
  exact full_mem.2 ⟨s, h1, col_iff.2 ⟨y, h, h2⟩, h2⟩
/-- a wheel shows something exactly if there is a reading -/
theorem one_len {W S : Nat} (hS : 2 ≤ S) (hS10 : S ≤ 10) (cs : List Cl) {i : Nat} (hi : i < W) : 0 < (full (readings W S cs) i S).length ↔ 0 < (readings W S cs).length := by
  constructor
  · intro h
    obtain ⟨s, _, h2, _⟩ := full_mem.1 (List.getElem_mem h)
    obtain ⟨r, hr, _⟩ := col_iff.1 h2
    exact List.length_pos_of_mem hr
  · intro h
    exact List.length_pos_of_mem (one_code hS hS10 (List.getElem_mem h) hi)
/-- a symbol that is shown: that it is not there is a clue, and not implied -/
theorem one_imp {W S : Nat} {cs : List Cl} (hE : cntE W S cs = 0) {i : Nat} (hi : i < W) {v : Int} (hv : v ∈ full (readings W S cs) i S) : impE W S cs ⟨1, i, 0, v, 0, [], true⟩ = 0 ∧ impB W S cs ⟨1, i, 0, v, 0, [], true⟩ = false := by
  obtain ⟨W', S', hW', hS', hW1, hW4, hS, hS10, _⟩ := cntE_nat hE
  obtain rfl : W = W' := by omega
  obtain rfl : S = S' := by omega
  obtain ⟨s, h1, h2, rfl⟩ := full_mem.1 hv
  obtain ⟨r, hr, he⟩ := col_iff.1 h2
  have hc : clueB W S ⟨1, i, 0, s, 0, [], true⟩ = true := by
    have a1 : wi (i : Int) 0 (wrap64 ((W : Int) - 1)) = true := (wi_pre (by omega) (by omega)).2 (by omega)
    have a2 : wi (s : Int) 0 (wrap64 ((S : Int) - 1)) = true := (wi_pre (by omega) (by omega)).2 (by omega)
    simp only [clueB, rangeB, spareB, a1, a2, if_true]
    rfl
  refine ⟨by rw [impE_eq, if_pos hE, if_pos hc], ?_⟩
  rw [impB, Bool.and_eq_false_iff]
  right
  have hn : impF W S cs ⟨1, i, 0, s, 0, [], true⟩ ≠ none := by
    intro h
    have := List.find?_eq_none.1 h r (by simpa using hr)
    apply this
    simp only [holdB, sayB, if_true, Int.toNat_natCast, he]
    simp
  cases h : impF W S cs ⟨1, i, 0, s, 0, [], true⟩ with
  | none => exact absurd h hn
  | some _ => rfl
theorem one_first {R : List (List Int)} {y : List Int} (h : y ∈ R) (h1 : R.length < 2) : R = [y] := by
  match R, h, h1 with
  | [x], h, _ => rw [List.mem_singleton.1 h]
  | _ :: _ :: _, _, h1 => exact absurd h1 (by simp)
theorem head_at {R : List (List Int)} (h : 0 < R.length) : R.headD [] = R[0] := by
  cases R with
  | nil => simp at h
  | cons r rs => rfl
theorem last_at {R : List (List Int)} (h : 0 < R.length) : R.getLastD [] = R[R.length - 1]'(by omega) := by
  have := last_take (R := R) (j := R.length - 1) (by omega)
  rw [Nat.sub_add_cancel h, List.take_length] at this
  exact this
/-- the two of Pair fit, and one is before the other -/
theorem one_pair {W S : Nat} {cs : List Cl} (h : 2 ≤ (readings W S cs).length) : (readings W S cs).headD [] ∈ readings W S cs ∧ (readings W S cs).getLastD [] ∈ readings W S cs ∧ befB ((readings W S cs).headD []) ((readings W S cs).getLastD []) = true := by
  rw [head_at (by omega), last_at (by omega)]
  exact ⟨List.getElem_mem _, List.getElem_mem _, rd_sorted (by omega) (by omega)⟩
theorem one_two {W S : Int} {cs : List Cl} (hE : cntE W S cs = 0) (h : 2 ≤ (readings W.toNat S.toNat cs).length) :
    prE W S cs = 0 ∧ prA W S cs ∈ readings W.toNat S.toNat cs ∧ prB W S cs ∈ readings W.toNat S.toNat cs ∧ befB (prA W S cs) (prB W S cs) = true := by
  have h0 : prE W S cs = 0 := by rw [prE, if_pos hE, if_neg (by omega)]
  obtain ⟨a, b, c⟩ := one_pair h
  rw [prA, prB, if_pos h0, if_pos h0]
  exact ⟨h0, a, b, c⟩
theorem one_less {W S : Int} {cs : List Cl} (hE : cntE W S cs = 0) (h : (readings W.toNat S.toNat cs).length < 2) : prE W S cs = 3 := by
  rw [prE, if_pos hE, if_pos h]
theorem keptE {w1 w' w2 : World} {p q r s : Addr} {v u t x : Value} (hp : p.block < w1.heap.size) (hq : q.block < w1.heap.size) (hr : r.block < w1.heap.size) (hs : s.block < w1.heap.size)
    (h : Below w1.heap.size w1 w' ∧ w'.cell? p = some v ∧ w'.cell? q = some u ∧ w'.cell? r = some t ∧ w'.cell? s = some x) (hb : Below w'.heap.size w' w2) :
    Below w1.heap.size w1 w2 ∧ w2.cell? p = some v ∧ w2.cell? q = some u ∧ w2.cell? r = some t ∧ w2.cell? s = some x :=
  ⟨h.1.trans (hb.mono h.1.size), (hb.cell (by have := h.1.size; omega)).trans h.2.1, (hb.cell (by have := h.1.size; omega)).trans h.2.2.1, (hb.cell (by have := h.1.size; omega)).trans h.2.2.2.1, (hb.cell (by have := h.1.size; omega)).trans h.2.2.2.2⟩
theorem take_mem {x : List Int} {v : Int} {k : Nat} (hk : k < x.length) : decide (v ∈ x.take (k + 1)) = (decide (v ∈ x.take k) || decide (nth x k = v)) := by
  rw [List.take_succ_eq_append_getElem hk, Bool.eq_iff_iff, Bool.or_eq_true, decide_eq_true_eq, decide_eq_true_eq, decide_eq_true_eq, List.mem_append, List.mem_singleton, nth_lt hk]
  exact ⟨fun h => h.imp id Eq.symm, fun h => h.imp id Eq.symm⟩
end Go.Proofs.YthegmomjfbcabaaDoor
