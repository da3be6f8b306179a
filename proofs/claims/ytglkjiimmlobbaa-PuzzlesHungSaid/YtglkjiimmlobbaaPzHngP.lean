/-
  Mathematics of hangings: all that begin with some portraits, in order.
-/
import Derived.Test.YtglkjiimmlobbaaPzPor5
import Derived.Test.YtglkjiimmlobbaaPzRowF
namespace Go.Proofs.Ytglkjiimmlobbaa
open Go.RowKit Go.Shelf
/-- all hangings that begin so, f portraits more -/
def exts : Nat → Nat → List Int → List (List Int)
  | 0, _, h => [h]
  | f + 1, n, h => ((List.range n).map fun (p : Nat) => if h.contains (p : Int) then [] else exts f n (h ++ [(p : Int)])).flatten
/-- those of them that are right -/
def fl (q : List Int → Bool) (f n : Nat) (h : List Int) : List (List Int) := (exts f n h).filter q
def chl (q : List Int → Bool) (f n : Nat) (h : List Int) (p : Nat) : List (List Int) := if h.contains (p : Int) then [] else fl q f n (h ++ [(p : Int)])
def pre (q : List Int → Bool) (f n : Nat) (h : List Int) (p : Nat) : List (List Int) := ((List.range p).map (chl q f n h)).flatten
theorem fl_zero (q n h) : fl q 0 n h = if q h then [h] else [] := by
  simp only [fl, exts, List.filter_cons, List.filter_nil]
theorem pre_succ (q f n h p) : pre q f n h (p + 1) = pre q f n h p ++ chl q f n h p := by
  simp [pre, List.range_succ]
theorem filter_flatten' (q : List Int → Bool) (g : Nat → List (List Int)) (l : List Nat) : ((l.map g).flatten).filter q = (l.map fun p => (g p).filter q).flatten := by
  induction l with
  | nil => rfl
  | cons a r ih => simp [ih]
theorem fl_succ (q f n h) : fl q (f + 1) n h = pre q f n h n := by
  rw [fl, exts, filter_flatten', pre]
  congr 1
  apply List.map_congr_left
  intro p _
  simp only [chl]
  split
  · rfl
  · rfl
/-- a piece of a list, from r on -/
def Seg (L : List (List Int)) (r : Nat) (xs : List (List Int)) : Prop := ∃ a b, L = a ++ xs ++ b ∧ a.length = r
theorem Seg.all (L : List (List Int)) : Seg L 0 L := ⟨[], [], by simp, rfl⟩
theorem Seg.len {L xs : List (List Int)} {r : Nat} (h : Seg L r xs) : r + xs.length ≤ L.length := by
  obtain ⟨a, b, rfl, rfl⟩ := h
  simp only [List.length_append]; omega
theorem Seg.at_ {L xs : List (List Int)} {r j : Nat} (h : Seg L r xs) (hj : j < xs.length) : L.getD (r + j) [] = xs[j] := by
  obtain ⟨a, b, rfl, rfl⟩ := h
  rw [List.getD_eq_getElem?_getD, List.append_assoc, List.getElem?_append_right (by omega), List.getElem?_append_left (by omega)]
  simp [hj]
theorem Seg.child {L : List (List Int)} {r : Nat} {q f n h} (hs : Seg L r (fl q (f + 1) n h)) {p : Nat} (hp : p < n) : Seg L (r + (pre q f n h p).length) (chl q f n h p) := by
  obtain ⟨a, b, e, rfl⟩ := hs
  have hsplit : ∀ d, ∃ t, pre q f n h (p + 1 + d) = pre q f n h p ++ chl q f n h p ++ t := by
    intro d
    induction d with
    | zero => exact ⟨[], by rw [Nat.add_zero, pre_succ]; simp⟩
    | succ d ih =>
      obtain ⟨t, ht⟩ := ih
      exact ⟨t ++ chl q f n h (p + 1 + d), by rw [show p + 1 + (d + 1) = (p + 1 + d) + 1 from rfl, pre_succ, ht]; simp⟩
  obtain ⟨t, ht⟩ := hsplit (n - (p + 1))
  rw [show p + 1 + (n - (p + 1)) = n by omega] at ht
  rw [fl_succ, ht] at e
  exact ⟨a ++ pre q f n h p, t ++ b, by rw [e]; simp, by simp⟩
theorem exts_len : ∀ f n h, ∀ x ∈ exts f n h, x.length = h.length + f := by
  intro f
  induction f with
  | zero => intro n h x hx; simp [exts] at hx; rw [hx]; rfl
  | succ f ih =>
    intro n h x hx
    simp only [exts, List.mem_flatten, List.mem_map] at hx
    obtain ⟨l, ⟨p, -, rfl⟩, hx⟩ := hx
    split at hx
    · cases hx
    · rw [ih _ _ x hx]; simp; omega
/-- the hangings in which all sentences hold -/
def hngL (n : Nat) (ps : List Por) : List (List Int) := fl (allT' ps) n n []
theorem hng_each {n : Nat} {ps : List Por} : ∀ x ∈ hngL n ps, x.length = n := by
  intro x hx
  rw [exts_len n n [] x (List.mem_filter.1 hx).1]; simp
theorem exts_most : ∀ f n h, (exts f n h).length ≤ n ^ f := by
  intro f
  induction f with
  | zero => intro n h; simp [exts]
  | succ f ih =>
    intro n h
    have : ∀ (l : List Nat), ((l.map fun (p : Nat) => if h.contains (p : Int) then [] else exts f n (h ++ [(p : Int)])).flatten).length ≤ l.length * n ^ f := by
      intro l
      induction l with
      | nil => simp
      | cons a r ih2 =>
        simp only [List.map_cons, List.flatten_cons, List.length_append, List.length_cons]
        have h1 : (if h.contains (a : Int) then [] else exts f n (h ++ [(a : Int)])).length ≤ n ^ f := by
          split
          · simp
          · exact ih _ _
        rw [Nat.add_mul]
        omega
    have h2 := this (List.range n)
    rw [List.length_range] at h2
    rw [exts, Nat.pow_succ, Nat.mul_comm]
    exact h2
theorem hng_most {n : Nat} {ps : List Por} (hn : n ≤ 6) : (hngL n ps).length ≤ 50000 := by
  refine Nat.le_trans (List.length_filter_le _ _) (Nat.le_trans (exts_most n n []) ?_)
  have h : n = 0 ∨ n = 1 ∨ n = 2 ∨ n = 3 ∨ n = 4 ∨ n = 5 ∨ n = 6 := by omega
  rcases h with rfl | rfl | rfl | rfl | rfl | rfl | rfl <;> decide
theorem run_make_cap {P : Program} (t e : TypeId) (z : Value) (bytes : Nat) (ht : P.underlying t = some (.slice e)) (hinfo : (P.info? e).map (fun i => (i.zero, i.size, i.bytes)) = some (some z, 1, bytes)) (hz1 : z.cells = #[z])
    (kl kc : IntKind) (n : Nat) (hbytes : bytes * n ≤ 281474976710656) (h63 : n ≤ 9223372036854775807) (w : World) :
    (Instr.makeSlice t (.int kl 0) (.int kc (n : Int))).run P w = .ok (.slice (some ⟨w.heap.size, 0, none⟩) 0 n) (w.alloc (.cells (madeCells #[z] n) e)) := by
  obtain ⟨i, hi, hzz⟩ := Option.map_eq_some_iff.1 hinfo
  simp only [Prod.mk.injEq] at hzz
  obtain ⟨hz, hs, hb⟩ := hzz
  have hb' : (i.bytes : Int) * (n : Int) ≤ 281474976710656 := by
    have h : ((i.bytes * n : Nat) : Int) ≤ 281474976710656 := by rw [hb]; omega
    rwa [Int.natCast_mul] at h
  have hr := run_make (P := P) w t e i z ht hi hz kl kc 0 n (Int.le_refl _) (by omega) hb' (by omega)
  simp only [Int.toNat_natCast, Int.toNat_zero, hs, Nat.mul_one, hz1] at hr
  exact hr
/-- one element less -/
theorem own_less {w : World} {b g k cap : Nat} {xs : List Value} {x : Value} (h : w.ownsRow b 3 1 (.slice (some ⟨g, 0, none⟩) (k + 1) cap) (k + 1) (xs ++ [x])) : w.ownsRow b 3 1 (.slice (some ⟨g, 0, none⟩) k cap) k xs := by
  obtain ⟨h1, h2⟩ := h
  have hl : xs.length = k := by simp at h1; omega
  refine ⟨by omega, .inr ?_⟩
  rcases h2 with ⟨h2, -⟩ | ⟨g', cap', cur, h2, h3, h4, h5, h6, h7, h8⟩
  · cases h2
  · injection h2 with e1 _ e3
    injection e1 with e1
    injection e1 with e1 _ _
    subst e1 e3
    refine ⟨g, cap, cur, rfl, h3, h4, by omega, h6, h7, ?_⟩
    have e1 : cur.toList.take (k * 1) = (cur.toList.take ((k + 1) * 1)).take (k * 1) := by
      rw [List.take_take, Nat.min_eq_left (by omega)]
    rw [e1, h8, List.take_append_of_le_length (by omega), List.take_of_length_le (by omega)]
/-- a full row is the block -/
theorem own_full {w : World} {b g : Nat} {x : List Int} (h : w.ownsRow b 3 1 (.slice (some ⟨g, 0, none⟩) x.length x.length) x.length (x.map I)) : w.heap[g]? = some (.cells (x.map I).toArray 3 (0, 0)) := by
  obtain ⟨h1, h2⟩ := h
  rcases h2 with ⟨h2, -⟩ | ⟨g', cap', cur, h2, h3, h4, h5, h6, h7, h8⟩
  · cases h2
  · injection h2 with e1 _ e3
    injection e1 with e1
    injection e1 with e1 _ _
    subst e1
    rw [h4]
    have : cur = (x.map I).toArray := by
      rw [← h8, List.take_of_length_le (by simp; omega)]
    rw [this]
end Go.Proofs.Ytglkjiimmlobbaa
