/-
  PURE FACTS for layer 3, sequences: differences, what follows, polynomials. Nothing of the program.
  CONTRACTS: differences.
  CONTRACTS: isConstant, by slices.ContainsFunc and slices.IndexFunc over its own closure.
  CONTRACT: following: what comes behind a sequence, by differences.
  CONTRACT: puzzles.Next.
  CONTRACTS of the document's own answers: padlockref03.equal.
-/
import Derived.RowKit3
import Derived.Test.YtfjincdlenneaaaPzA
import Derived.StillTailTactics
/-
  PURE FACTS for layer 3, sequences: differences, what follows, polynomials. Nothing of the program.
-/
namespace Go.Proofs.Ytfjincdlenneaaa
/-- the differences of a list -/
def diffs : List Int → List Int
  | a :: b :: r => (b - a) :: diffs (b :: r)
  | _ => []
theorem diffs_length : ∀ l : List Int, (diffs l).length = l.length - 1
  | [] => rfl
  | [_] => rfl
  | a :: b :: r => by
    rw [diffs, List.length_cons, diffs_length (b :: r)]
    simp
theorem diffs_at : ∀ (l : List Int) (i : Nat) (h : i + 1 < l.length), (diffs l)[i]'(by rw [diffs_length]; omega) = l[i + 1] - l[i]
  | [], _, h => by simp at h
  | [_], _, h => by simp at h
  | a :: b :: r, 0, _ => rfl
  | a :: b :: r, i + 1, h => by
    have := diffs_at (b :: r) i (by simpa using h)
    simpa [diffs] using this
/-- are all as the first one -/
def allEq (l : List Int) : Bool := l.all (fun n => n == l.headD 0)
/-- what follows a list, and at which degree: the fuel is its length -/
def nxt : Nat → List Int → Option (Int × Nat)
  | 0, _ => none
  | f + 1, l => if l.length < 2 then none else if allEq l then some (l.getLastD 0, 0) else (nxt f (diffs l)).map (fun r => (l.getLastD 0 + r.1, r.2 + 1))
/-- the rows of a polynomial by its differences at 0 -/
def prow (d : List Int) : Nat → Nat → Int
  | 0, k => d.getD k 0
  | i + 1, k => prow d i k + prow d i (k + 1)
theorem prow_succ (d : List Int) (i k : Nat) : prow d (i + 1) k = prow d i k + prow d i (k + 1) := rfl
theorem prow_zero {d : List Int} {q : Nat} (h : ∀ k, q ≤ k → prow d 0 k = 0) : ∀ i k, q ≤ k → prow d i k = 0
  | 0, k, hk => h k hk
  | i + 1, k, hk => by rw [prow, prow_zero h i k hk, prow_zero h i (k + 1) (by omega)]; rfl
theorem prow_end (d : List Int) (i : Nat) {k : Nat} (h : d.length ≤ k) : prow d i k = 0 :=
  prow_zero (q := d.length) (fun k hk => by simp [prow, List.getElem?_eq_none hk]) i k h
def ptake (d : List Int) (k t : Nat) : List Int := (List.range t).map (fun i => prow d i k)
theorem ptake_length (d : List Int) (k t : Nat) : (ptake d k t).length = t := by simp [ptake]
theorem ptake_at (d : List Int) (k t i : Nat) (h : i < (ptake d k t).length) : (ptake d k t)[i] = prow d i k := by simp [ptake]
theorem diffs_ptake (d : List Int) (k t : Nat) : diffs (ptake d k (t + 1)) = ptake d (k + 1) t := by
  refine List.ext_getElem (by rw [diffs_length, ptake_length, ptake_length]; rfl) fun i h1 h2 => ?_
  rw [ptake_length] at h2
  rw [diffs_at _ _ (by rw [ptake_length]; omega), ptake_at, ptake_at, ptake_at, prow]
  omega
theorem ptake_last (d : List Int) (k t : Nat) : (ptake d k (t + 1)).getLastD 0 = prow d t k := by
  rw [ptake, List.range_succ, List.map_append]
  simp
/-- where a row stands still long enough, it stands still -/
theorem prow_still {d : List Int} {k t : Nat} (ht : d.length ≤ t + k) (h : ∀ i, i < t → prow d i (k + 1) = 0) : ∀ i, prow d i (k + 1) = 0 := by
  have h0 : ∀ j i, i + j < t → prow d i (k + 1 + j) = 0 := by
    intro j
    induction j with
    | zero => intro i hi; exact h i (by omega)
    | succ j ih =>
      intro i hi
      have h1 := ih i (by omega)
      have h2 := ih (i + 1) (by omega)
      rw [prow_succ, h1] at h2
      rw [← Nat.add_assoc]
      omega
  intro i
  refine prow_zero (q := k + 1) (fun m hm => ?_) i (k + 1) (Nat.le_refl _)
  rcases Nat.lt_or_ge (m - (k + 1)) t with h1 | h1
  · have := h0 (m - (k + 1)) 0 (by omega)
    rwa [show k + 1 + (m - (k + 1)) = m by omega] at this
  · exact prow_end d 0 (by omega)
theorem allEq_ptake {d : List Int} {k t : Nat} (h : allEq (ptake d k (t + 1)) = true) : ∀ i, i < t + 1 → prow d i k = prow d 0 k := by
  intro i hi
  have h0 : (ptake d k (t + 1)).headD 0 = prow d 0 k := by
    rw [ptake, List.range_succ_eq_map]
    rfl
  rw [allEq, h0, List.all_eq_true] at h
  have := h (prow d i k) (List.mem_map.2 ⟨i, List.mem_range.2 hi, rfl⟩)
  simpa using this
theorem allEq_const {d : List Int} {k t : Nat} (h : ∀ i, prow d i k = prow d 0 k) : allEq (ptake d k (t + 1)) = true := by
  have h0 : (ptake d k (t + 1)).headD 0 = prow d 0 k := by
    rw [ptake, List.range_succ_eq_map]
    rfl
  rw [allEq, h0, List.all_eq_true]
  intro n hn
  obtain ⟨i, _, rfl⟩ := List.mem_map.1 hn
  simpa using h i
/-- a polynomial goes on as its differences say -/
theorem nxt_prow (d : List Int) : ∀ (m k f t : Nat), d.length = k + 1 + m → m + 2 ≤ t → t ≤ f → ∃ D, D ≤ m ∧ nxt f (ptake d k t) = some (prow d t k, D) := by
  intro m
  induction m with
  | zero =>
    intro k f t hd ht hf
    obtain ⟨f, rfl⟩ : ∃ g, f = g + 1 := ⟨f - 1, by omega⟩
    obtain ⟨t, rfl⟩ : ∃ s, t = s + 1 := ⟨t - 1, by omega⟩
    have hz : ∀ i, prow d i (k + 1) = 0 := fun i => prow_end d i (by omega)
    have hc : ∀ i, prow d i k = prow d 0 k := by
      intro i
      induction i with
      | zero => rfl
      | succ i ih => rw [prow_succ, ih, hz i]; omega
    refine ⟨0, Nat.le_refl _, ?_⟩
    rw [nxt, ptake_length, if_neg (by omega), if_pos (allEq_const hc), ptake_last, hc t, hc (t + 1)]
  | succ m ih =>
    intro k f t hd ht hf
    obtain ⟨f, rfl⟩ : ∃ g, f = g + 1 := ⟨f - 1, by omega⟩
    obtain ⟨t, rfl⟩ : ∃ s, t = s + 1 := ⟨t - 1, by omega⟩
    rw [nxt, ptake_length, if_neg (by omega), ptake_last]
    by_cases hq : allEq (ptake d k (t + 1)) = true
    · have h1 := allEq_ptake hq
      have hz : ∀ i, i < t → prow d i (k + 1) = 0 := fun i hi => by
        have a := h1 i (by omega)
        have b := h1 (i + 1) (by omega)
        rw [prow_succ] at b
        omega
      have hs := prow_still (t := t) (by omega) hz
      refine ⟨0, Nat.zero_le _, ?_⟩
      rw [if_pos hq, prow_succ, hs t, Int.add_zero]
    · rw [if_neg hq, diffs_ptake]
      obtain ⟨D, h1, h2⟩ := ih (k + 1) f t (by omega) (by omega) (by omega)
      refine ⟨D + 1, by omega, ?_⟩
      rw [h2]
      rfl
end Go.Proofs.Ytfjincdlenneaaa
/-
  CONTRACTS: differences.
-/
namespace Go.Proofs.Ytfjincdlenneaaa
open Go.RowKit Go.Shelf
theorem wpOp_turn {P : Program} {ops : Array Oper} {Q : Exit → Act → World → Prop} {i : Nat} {o : Oper} {K : Act → World → Prop} {a : Act} {w : World} (w2 : World) (ho : ops[i]? = some o) (hw : Region.wanted o (yielded ops a.tmps) = true) (hv : (execOp a.eval o).run P w = .ok .skip w2)
    (h : K (a.put o.dst undef) w2) : wpOp P ops Q i K a w := by
  unfold wpOp
  simp only [ho]
  rw [if_pos hw]
  unfold Oper.wp
  rw [hv, Oper.upon_skip]
  exact .inl h
/-- what is bounded -/
def Bnd (b : Nat) (l : List Int) : Prop := ∀ i, i < l.length → -(b : Int) ≤ nth l i ∧ nth l i ≤ b
/-- the differences, as far as they are reckoned -/
def dfT (l : List Int) (m k : Nat) : List Int := (diffs l).take k ++ List.replicate (m - k) 0
theorem dfT_length {l : List Int} {m k : Nat} (h : (diffs l).length = m) (hk : k ≤ m) : (dfT l m k).length = m := by
  rw [dfT, List.length_append, List.length_take, List.length_replicate, h]; omega
theorem dfT_at0 (l : List Int) (m k : Nat) (h : (diffs l).length = m) (hk : k < m) : (dfT l m k)[k]? = some 0 := by
  rw [dfT, List.getElem?_append_right (by rw [List.length_take]; omega), List.length_take, h, List.getElem?_replicate]
  simp; omega
theorem dfT_all (l : List Int) (m : Nat) (h : (diffs l).length = m) : dfT l m m = diffs l := by
  rw [dfT, ← h]; simp
theorem dfT_set (l : List Int) (m k : Nat) (h : (diffs l).length = m) (hk : k < m) (hl : l.length = m + 1) : (dfT l m k).set k (nth l (k + 1) - nth l k) = dfT l m (k + 1) := by
  rw [nth_lt (by omega), nth_lt (by omega), ← diffs_at l k (by omega)]
  refine List.ext_getElem (by rw [List.length_set, dfT_length h (by omega), dfT_length h hk]) fun i h1 h2 => ?_
  rw [dfT_length h hk] at h2
  rw [List.getElem_set]
  by_cases e : k = i
  · subst e
    simp only [if_pos, dfT]
    rw [List.getElem_append_left (by rw [List.length_take]; omega), List.getElem_take]
  · rw [if_neg e]
    simp only [dfT, List.getElem_append, List.length_take, List.getElem_take, List.getElem_replicate]
    rcases Nat.lt_or_gt_of_ne e with h3 | h3
    · rw [dif_neg (by omega), dif_neg (by omega)]
    · rw [dif_pos (by omega), dif_pos (by omega)]
theorem dfT_arr (l : List Int) (m k : Nat) (h : (diffs l).length = m) (hk : k < m) (hl : l.length = m + 1) : (((dfT l m k).map I).toArray).setIfInBounds k (I (nth l (k + 1) - nth l k)) = ((dfT l m (k + 1)).map I).toArray := by
  rw [← dfT_set l m k h hk hl]
  apply Array.toList_inj.1
  simp [List.map_set]

set_option maxRecDepth 100000 in
set_option maxHeartbeats 1000000 in
theorem differences_any (A : Option Addr) (c : Nat) (l : List Int) (b : Nat) (w : World) (hx : IntsR w w.heap.size A l) (h1 : 1 ≤ l.length) (hl : l.length ≤ 64) (hb : b ≤ 1000000000000000) (hB : Bnd b l) :
    Calls Try.prog 131 #[.slice A l.length c] w fun e w' => ∃ A' c', e = .returned (.slice A' (diffs l).length c') ∧ IntsR w' w'.heap.size A' (diffs l) ∧ Below w.heap.size w w' := by
  obtain ⟨m, hm⟩ : ∃ m, l.length = m + 1 := ⟨l.length - 1, by omega⟩
  have hdl : (diffs l).length = m := by rw [diffs_length, hm]; rfl
  have hmk := run_make_row' (P := Try.prog) 29 3 (.int .i64 0) 8 Try.underlying29 info_int rfl .i64 .i64 m (by omega) (by omega)
  simp only [made_zeros] at hmk
  have e1 : wrap64 (((m + 1 : Nat) : Int) - 1) = (m : Int) := by rw [show ((m + 1 : Nat) : Int) - 1 = (m : Int) by omega]; exact IntWalk.wrap64_in _ ⟨by omega, by omega⟩
  rw [hdl, hm]
  go_enter Try.func131, Try.ntmps131
  go_wp2_with fail
  obtain ⟨w1, hw1⟩ : ∃ w1, w1 = w.alloc (.cells (Array.replicate m (I 0)) 3) := ⟨_, rfl⟩
  rw [← hw1]
  have hb1 : Below w.heap.size w w1 := by rw [hw1]; exact (Below.refl _ _).alloc (Nat.le_refl _) _
  have hg1 : w1.heap[w.heap.size]? = some (.cells ((dfT l m 0).map I).toArray 3 (0, 0)) := by
    rw [hw1]; refine (alloc_obj _ _ _ rfl).trans ?_; simp [dfT]
  have HG1 := Lib.hid hg1
  clear hw1 hg1 hmk
  have HX := Lib.hid hx
  have HM := Lib.hid hm
  clear hx
  go_loopw [11] (fun i wr => ∃ k : Nat, k ≤ m ∧ i = .int .i64 k ∧ Hid (wr.heap[w.heap.size]? = some (.cells ((dfT l m k).map I).toArray 3 (0, 0))) ∧ Below w.heap.size w wr) (fun i _ => m - (intOf i).toNat)
  case atStart => exact ⟨0, Nat.zero_le _, rfl, HG1, hb1⟩
  case round =>
    obtain ⟨k, hk, rfl, HG, hBl⟩ := hrel
    by_cases hlt : k < m
    · have hx' := HX.out.below hBl (Nat.le_refl _)
      obtain ⟨ad, rfl, hbl, hc1⟩ := hx'.at_ (k := k) (by omega)
      obtain ⟨ad', hA, hbl', hc2⟩ := hx'.at_ (k := k + 1) (by omega)
      injection hA with hA
      subst hA
      have hbk := hB k (by omega)
      have hbk1 := hB (k + 1) (by omega)
      have q1 := hbk.1
      have q2 := hbk.2
      have q3 := hbk1.1
      have q4 := hbk1.2
      have hcell : wr.cell? ⟨w.heap.size, k, none⟩ = some (I 0) := (cell_of_row wr _ k _ _ _ HG.out).trans (by simp [dfT_at0 l m k hdl hlt])
      have hfr : wr.frozen? ⟨w.heap.size, k, none⟩ = false := frozen_of_row HG.out k
      clear hbk hbk1 hx' hbl'
      generalize hn : nth l k = x at *
      generalize hn1 : nth l (k + 1) = y at *
      have HN := Lib.hid hn
      have HN1 := Lib.hid hn1
      clear hn hn1
      have hfr' : wr.drew.frozen? ⟨w.heap.size, k, none⟩ = false := hfr
      have hcell' : wr.drew.cell? ⟨w.heap.size, k, none⟩ = some (I 0) := hcell
      have ey : IntKind.i64.wrap (y - x) = y - x := (IntWalk.i64_left _).trans (IntWalk.wrap64_in _ ⟨by omega, by omega⟩)
      have ek2 : IntKind.i64.wrap ((k : Int) + 1) = (k : Int) + 1 := (IntWalk.i64_left _).trans (IntWalk.wrap64_in _ ⟨by omega, by omega⟩)
      have ead : ad.add (k + 1) = ⟨ad.block, ad.off + (k + 1), none⟩ := by simp [Addr.add]
      rw [ead] at hc2
      go_wp2_with fail
      clear hb q1 q2 q3 q4 h1 hl
      refine wp_region_inv (by kernel_rfl) (fun L a w' => L.size = 14 ∧ ∃ v14 v15 v16 v17 v18 v19 v20 v21 v22 v23 v24 v25 v26 : Value, a = { tmps := #[.slice (some ad) (m + 1) c, undef, .slice none 0 0, .slice (some ⟨w.heap.size, 0, none⟩) m m, .int .i64 (k : Int), .slice (some ad) (m + 1) c, .int .i64 ((m : Int) + 1), .int .i64 (m : Int), .slice (some ⟨w.heap.size, 0, none⟩) m m, .slice (some ⟨w.heap.size, 0, none⟩) m m, .int .i64 (m : Int), .int .i64 (k : Int), .bool true, .int .i64 (k : Int), v14, v15, v16, v17, v18, v19, v20, v21, v22, v23, v24, v25, v26, u27, undef], defers := [] } ∧ (∀ p : Addr, p.block < w.heap.size → w'.cell? p = wr.cell? p) ∧ (L.getD 13 false = false → w' = wr.drew) ∧ (L.getD 13 false = true → w' = wr.drew.setCell ⟨w.heap.size, k, none⟩ (I (y - x))) ∧ (L.getD 0 false = true → v14 = .slice (some ⟨w.heap.size, 0, none⟩) m m) ∧ (L.getD 1 false = true → v15 = .int .i64 (k : Int)) ∧ (L.getD 2 false = true → v16 = .slice (some ad) (m + 1) c) ∧ (L.getD 3 false = true → v17 = .int .i64 (k : Int)) ∧ (L.getD 4 false = true → v18 = .int .i64 ((k : Int) + 1)) ∧ (L.getD 5 false = true → v19 = .pointer (some ⟨ad.block, ad.off + (k + 1), none⟩)) ∧ (L.getD 6 false = true → v20 = .int .i64 y) ∧ (L.getD 7 false = true → v21 = .slice (some ad) (m + 1) c) ∧ (L.getD 8 false = true → v22 = .int .i64 (k : Int)) ∧ (L.getD 9 false = true → v23 = .pointer (some (ad.add k))) ∧ (L.getD 10 false = true → v24 = .int .i64 x) ∧ (L.getD 11 false = true → v25 = .int .i64 (y - x)) ∧ (L.getD 12 false = true → v26 = .pointer (some ⟨w.heap.size, k, none⟩))) ?_ ?_ ?_
      · exact ⟨by simp, _, _, _, _, _, _, _, _, _, _, _, _, _, rfl, fun p _ => rfl, fun _ => rfl, by simp, by simp, by simp, by simp, by simp, by simp, by simp, by simp, by simp, by simp, by simp, by simp, by simp, by simp⟩
      · rintro i L a w' ⟨hL, v14, v15, v16, v17, v18, v19, v20, v21, v22, v23, v24, v25, v26, rfl, hce, hw0, hw1, h0, h1, h2, h3, h4, h5, h6, h7, h8, h9, h10, h11, h12⟩ hi
        have hcases : i = 0 ∨ i = 1 ∨ i = 2 ∨ i = 3 ∨ i = 4 ∨ i = 5 ∨ i = 6 ∨ i = 7 ∨ i = 8 ∨ i = 9 ∨ i = 10 ∨ i = 11 ∨ i = 12 ∨ i = 13 := by
          have : i < 14 := ready_lt hi
          omega
        have d1 := (hce (ad.add k) (by rw [block_of_add]; exact hbl)).trans hc1
        have d2 := (hce ⟨ad.block, ad.off + (k + 1), none⟩ hbl).trans hc2
        rcases hcases with rfl | rfl | rfl | rfl | rfl | rfl | rfl | rfl | rfl | rfl | rfl | rfl | rfl | rfl
        · refine wpOp_val (.slice (some ⟨w.heap.size, 0, none⟩) m m) rfl (by rfl) (by go_simp) ?_
          exact ⟨by simpa using hL, _, _, _, _, _, _, _, _, _, _, _, _, _, rfl, hce, fun h => hw0 ((set_other (by decide)).symm.trans h), fun h => hw1 ((set_other (by decide)).symm.trans h), fun _ => rfl, (fun h => h1 ((set_other (by decide)).symm.trans h)), (fun h => h2 ((set_other (by decide)).symm.trans h)), (fun h => h3 ((set_other (by decide)).symm.trans h)), (fun h => h4 ((set_other (by decide)).symm.trans h)), (fun h => h5 ((set_other (by decide)).symm.trans h)), (fun h => h6 ((set_other (by decide)).symm.trans h)), (fun h => h7 ((set_other (by decide)).symm.trans h)), (fun h => h8 ((set_other (by decide)).symm.trans h)), (fun h => h9 ((set_other (by decide)).symm.trans h)), (fun h => h10 ((set_other (by decide)).symm.trans h)), (fun h => h11 ((set_other (by decide)).symm.trans h)), (fun h => h12 ((set_other (by decide)).symm.trans h))⟩
        · refine wpOp_val (.int .i64 (k : Int)) rfl (by rfl) (by go_simp) ?_
          exact ⟨by simpa using hL, _, _, _, _, _, _, _, _, _, _, _, _, _, rfl, hce, fun h => hw0 ((set_other (by decide)).symm.trans h), fun h => hw1 ((set_other (by decide)).symm.trans h), (fun h => h0 ((set_other (by decide)).symm.trans h)), fun _ => rfl, (fun h => h2 ((set_other (by decide)).symm.trans h)), (fun h => h3 ((set_other (by decide)).symm.trans h)), (fun h => h4 ((set_other (by decide)).symm.trans h)), (fun h => h5 ((set_other (by decide)).symm.trans h)), (fun h => h6 ((set_other (by decide)).symm.trans h)), (fun h => h7 ((set_other (by decide)).symm.trans h)), (fun h => h8 ((set_other (by decide)).symm.trans h)), (fun h => h9 ((set_other (by decide)).symm.trans h)), (fun h => h10 ((set_other (by decide)).symm.trans h)), (fun h => h11 ((set_other (by decide)).symm.trans h)), (fun h => h12 ((set_other (by decide)).symm.trans h))⟩
        · refine wpOp_val (.slice (some ad) (m + 1) c) rfl (by rfl) (by go_simp) ?_
          exact ⟨by simpa using hL, _, _, _, _, _, _, _, _, _, _, _, _, _, rfl, hce, fun h => hw0 ((set_other (by decide)).symm.trans h), fun h => hw1 ((set_other (by decide)).symm.trans h), (fun h => h0 ((set_other (by decide)).symm.trans h)), (fun h => h1 ((set_other (by decide)).symm.trans h)), fun _ => rfl, (fun h => h3 ((set_other (by decide)).symm.trans h)), (fun h => h4 ((set_other (by decide)).symm.trans h)), (fun h => h5 ((set_other (by decide)).symm.trans h)), (fun h => h6 ((set_other (by decide)).symm.trans h)), (fun h => h7 ((set_other (by decide)).symm.trans h)), (fun h => h8 ((set_other (by decide)).symm.trans h)), (fun h => h9 ((set_other (by decide)).symm.trans h)), (fun h => h10 ((set_other (by decide)).symm.trans h)), (fun h => h11 ((set_other (by decide)).symm.trans h)), (fun h => h12 ((set_other (by decide)).symm.trans h))⟩
        · refine wpOp_val (.int .i64 (k : Int)) rfl (by rfl) (by go_simp) ?_
          exact ⟨by simpa using hL, _, _, _, _, _, _, _, _, _, _, _, _, _, rfl, hce, fun h => hw0 ((set_other (by decide)).symm.trans h), fun h => hw1 ((set_other (by decide)).symm.trans h), (fun h => h0 ((set_other (by decide)).symm.trans h)), (fun h => h1 ((set_other (by decide)).symm.trans h)), (fun h => h2 ((set_other (by decide)).symm.trans h)), fun _ => rfl, (fun h => h4 ((set_other (by decide)).symm.trans h)), (fun h => h5 ((set_other (by decide)).symm.trans h)), (fun h => h6 ((set_other (by decide)).symm.trans h)), (fun h => h7 ((set_other (by decide)).symm.trans h)), (fun h => h8 ((set_other (by decide)).symm.trans h)), (fun h => h9 ((set_other (by decide)).symm.trans h)), (fun h => h10 ((set_other (by decide)).symm.trans h)), (fun h => h11 ((set_other (by decide)).symm.trans h)), (fun h => h12 ((set_other (by decide)).symm.trans h))⟩
        · obtain rfl := h3 (ready_dep hi 3 (by kernel_rfl))
          refine wpOp_val (.int .i64 ((k : Int) + 1)) rfl (by rfl) (by go_simp) ?_
          exact ⟨by simpa using hL, _, _, _, _, _, _, _, _, _, _, _, _, _, rfl, hce, fun h => hw0 ((set_other (by decide)).symm.trans h), fun h => hw1 ((set_other (by decide)).symm.trans h), (fun h => h0 ((set_other (by decide)).symm.trans h)), (fun h => h1 ((set_other (by decide)).symm.trans h)), (fun h => h2 ((set_other (by decide)).symm.trans h)), (fun h => h3 ((set_other (by decide)).symm.trans h)), fun _ => rfl, (fun h => h5 ((set_other (by decide)).symm.trans h)), (fun h => h6 ((set_other (by decide)).symm.trans h)), (fun h => h7 ((set_other (by decide)).symm.trans h)), (fun h => h8 ((set_other (by decide)).symm.trans h)), (fun h => h9 ((set_other (by decide)).symm.trans h)), (fun h => h10 ((set_other (by decide)).symm.trans h)), (fun h => h11 ((set_other (by decide)).symm.trans h)), (fun h => h12 ((set_other (by decide)).symm.trans h))⟩
        · obtain rfl := h2 (ready_dep hi 2 (by kernel_rfl))
          obtain rfl := h4 (ready_dep hi 4 (by kernel_rfl))
          refine wpOp_val (.pointer (some ⟨ad.block, ad.off + (k + 1), none⟩)) rfl (by rfl) (by go_simp; intro h; exfalso; omega) ?_
          exact ⟨by simpa using hL, _, _, _, _, _, _, _, _, _, _, _, _, _, rfl, hce, fun h => hw0 ((set_other (by decide)).symm.trans h), fun h => hw1 ((set_other (by decide)).symm.trans h), (fun h => h0 ((set_other (by decide)).symm.trans h)), (fun h => h1 ((set_other (by decide)).symm.trans h)), (fun h => h2 ((set_other (by decide)).symm.trans h)), (fun h => h3 ((set_other (by decide)).symm.trans h)), (fun h => h4 ((set_other (by decide)).symm.trans h)), fun _ => rfl, (fun h => h6 ((set_other (by decide)).symm.trans h)), (fun h => h7 ((set_other (by decide)).symm.trans h)), (fun h => h8 ((set_other (by decide)).symm.trans h)), (fun h => h9 ((set_other (by decide)).symm.trans h)), (fun h => h10 ((set_other (by decide)).symm.trans h)), (fun h => h11 ((set_other (by decide)).symm.trans h)), (fun h => h12 ((set_other (by decide)).symm.trans h))⟩
        · obtain rfl := h5 (ready_dep hi 5 (by kernel_rfl))
          refine wpOp_val (.int .i64 y) rfl (by rfl) (by go_simp) ?_
          exact ⟨by simpa using hL, _, _, _, _, _, _, _, _, _, _, _, _, _, rfl, hce, fun h => hw0 ((set_other (by decide)).symm.trans h), fun h => hw1 ((set_other (by decide)).symm.trans h), (fun h => h0 ((set_other (by decide)).symm.trans h)), (fun h => h1 ((set_other (by decide)).symm.trans h)), (fun h => h2 ((set_other (by decide)).symm.trans h)), (fun h => h3 ((set_other (by decide)).symm.trans h)), (fun h => h4 ((set_other (by decide)).symm.trans h)), (fun h => h5 ((set_other (by decide)).symm.trans h)), fun _ => rfl, (fun h => h7 ((set_other (by decide)).symm.trans h)), (fun h => h8 ((set_other (by decide)).symm.trans h)), (fun h => h9 ((set_other (by decide)).symm.trans h)), (fun h => h10 ((set_other (by decide)).symm.trans h)), (fun h => h11 ((set_other (by decide)).symm.trans h)), (fun h => h12 ((set_other (by decide)).symm.trans h))⟩
        · refine wpOp_val (.slice (some ad) (m + 1) c) rfl (by rfl) (by go_simp) ?_
          exact ⟨by simpa using hL, _, _, _, _, _, _, _, _, _, _, _, _, _, rfl, hce, fun h => hw0 ((set_other (by decide)).symm.trans h), fun h => hw1 ((set_other (by decide)).symm.trans h), (fun h => h0 ((set_other (by decide)).symm.trans h)), (fun h => h1 ((set_other (by decide)).symm.trans h)), (fun h => h2 ((set_other (by decide)).symm.trans h)), (fun h => h3 ((set_other (by decide)).symm.trans h)), (fun h => h4 ((set_other (by decide)).symm.trans h)), (fun h => h5 ((set_other (by decide)).symm.trans h)), (fun h => h6 ((set_other (by decide)).symm.trans h)), fun _ => rfl, (fun h => h8 ((set_other (by decide)).symm.trans h)), (fun h => h9 ((set_other (by decide)).symm.trans h)), (fun h => h10 ((set_other (by decide)).symm.trans h)), (fun h => h11 ((set_other (by decide)).symm.trans h)), (fun h => h12 ((set_other (by decide)).symm.trans h))⟩
        · refine wpOp_val (.int .i64 (k : Int)) rfl (by rfl) (by go_simp) ?_
          exact ⟨by simpa using hL, _, _, _, _, _, _, _, _, _, _, _, _, _, rfl, hce, fun h => hw0 ((set_other (by decide)).symm.trans h), fun h => hw1 ((set_other (by decide)).symm.trans h), (fun h => h0 ((set_other (by decide)).symm.trans h)), (fun h => h1 ((set_other (by decide)).symm.trans h)), (fun h => h2 ((set_other (by decide)).symm.trans h)), (fun h => h3 ((set_other (by decide)).symm.trans h)), (fun h => h4 ((set_other (by decide)).symm.trans h)), (fun h => h5 ((set_other (by decide)).symm.trans h)), (fun h => h6 ((set_other (by decide)).symm.trans h)), (fun h => h7 ((set_other (by decide)).symm.trans h)), fun _ => rfl, (fun h => h9 ((set_other (by decide)).symm.trans h)), (fun h => h10 ((set_other (by decide)).symm.trans h)), (fun h => h11 ((set_other (by decide)).symm.trans h)), (fun h => h12 ((set_other (by decide)).symm.trans h))⟩
        · obtain rfl := h7 (ready_dep hi 7 (by kernel_rfl))
          obtain rfl := h8 (ready_dep hi 8 (by kernel_rfl))
          refine wpOp_val (.pointer (some (ad.add k))) rfl (by rfl) (by go_simp; intro h; exfalso; omega) ?_
          exact ⟨by simpa using hL, _, _, _, _, _, _, _, _, _, _, _, _, _, rfl, hce, fun h => hw0 ((set_other (by decide)).symm.trans h), fun h => hw1 ((set_other (by decide)).symm.trans h), (fun h => h0 ((set_other (by decide)).symm.trans h)), (fun h => h1 ((set_other (by decide)).symm.trans h)), (fun h => h2 ((set_other (by decide)).symm.trans h)), (fun h => h3 ((set_other (by decide)).symm.trans h)), (fun h => h4 ((set_other (by decide)).symm.trans h)), (fun h => h5 ((set_other (by decide)).symm.trans h)), (fun h => h6 ((set_other (by decide)).symm.trans h)), (fun h => h7 ((set_other (by decide)).symm.trans h)), (fun h => h8 ((set_other (by decide)).symm.trans h)), fun _ => rfl, (fun h => h10 ((set_other (by decide)).symm.trans h)), (fun h => h11 ((set_other (by decide)).symm.trans h)), (fun h => h12 ((set_other (by decide)).symm.trans h))⟩
        · obtain rfl := h9 (ready_dep hi 9 (by kernel_rfl))
          refine wpOp_val (.int .i64 x) rfl (by rfl) (by go_simp) ?_
          exact ⟨by simpa using hL, _, _, _, _, _, _, _, _, _, _, _, _, _, rfl, hce, fun h => hw0 ((set_other (by decide)).symm.trans h), fun h => hw1 ((set_other (by decide)).symm.trans h), (fun h => h0 ((set_other (by decide)).symm.trans h)), (fun h => h1 ((set_other (by decide)).symm.trans h)), (fun h => h2 ((set_other (by decide)).symm.trans h)), (fun h => h3 ((set_other (by decide)).symm.trans h)), (fun h => h4 ((set_other (by decide)).symm.trans h)), (fun h => h5 ((set_other (by decide)).symm.trans h)), (fun h => h6 ((set_other (by decide)).symm.trans h)), (fun h => h7 ((set_other (by decide)).symm.trans h)), (fun h => h8 ((set_other (by decide)).symm.trans h)), (fun h => h9 ((set_other (by decide)).symm.trans h)), fun _ => rfl, (fun h => h11 ((set_other (by decide)).symm.trans h)), (fun h => h12 ((set_other (by decide)).symm.trans h))⟩
        · obtain rfl := h6 (ready_dep hi 6 (by kernel_rfl))
          obtain rfl := h10 (ready_dep hi 10 (by kernel_rfl))
          refine wpOp_val (.int .i64 (y - x)) rfl (by rfl) (by go_simp) ?_
          exact ⟨by simpa using hL, _, _, _, _, _, _, _, _, _, _, _, _, _, rfl, hce, fun h => hw0 ((set_other (by decide)).symm.trans h), fun h => hw1 ((set_other (by decide)).symm.trans h), (fun h => h0 ((set_other (by decide)).symm.trans h)), (fun h => h1 ((set_other (by decide)).symm.trans h)), (fun h => h2 ((set_other (by decide)).symm.trans h)), (fun h => h3 ((set_other (by decide)).symm.trans h)), (fun h => h4 ((set_other (by decide)).symm.trans h)), (fun h => h5 ((set_other (by decide)).symm.trans h)), (fun h => h6 ((set_other (by decide)).symm.trans h)), (fun h => h7 ((set_other (by decide)).symm.trans h)), (fun h => h8 ((set_other (by decide)).symm.trans h)), (fun h => h9 ((set_other (by decide)).symm.trans h)), (fun h => h10 ((set_other (by decide)).symm.trans h)), fun _ => rfl, (fun h => h12 ((set_other (by decide)).symm.trans h))⟩
        · obtain rfl := h0 (ready_dep hi 0 (by kernel_rfl))
          obtain rfl := h1 (ready_dep hi 1 (by kernel_rfl))
          refine wpOp_val (.pointer (some ⟨w.heap.size, k, none⟩)) rfl (by rfl) (by go_simp) ?_
          exact ⟨by simpa using hL, _, _, _, _, _, _, _, _, _, _, _, _, _, rfl, hce, fun h => hw0 ((set_other (by decide)).symm.trans h), fun h => hw1 ((set_other (by decide)).symm.trans h), (fun h => h0 ((set_other (by decide)).symm.trans h)), (fun h => h1 ((set_other (by decide)).symm.trans h)), (fun h => h2 ((set_other (by decide)).symm.trans h)), (fun h => h3 ((set_other (by decide)).symm.trans h)), (fun h => h4 ((set_other (by decide)).symm.trans h)), (fun h => h5 ((set_other (by decide)).symm.trans h)), (fun h => h6 ((set_other (by decide)).symm.trans h)), (fun h => h7 ((set_other (by decide)).symm.trans h)), (fun h => h8 ((set_other (by decide)).symm.trans h)), (fun h => h9 ((set_other (by decide)).symm.trans h)), (fun h => h10 ((set_other (by decide)).symm.trans h)), (fun h => h11 ((set_other (by decide)).symm.trans h)), fun _ => rfl⟩
        · obtain rfl := h12 (ready_dep hi 12 (by kernel_rfl))
          obtain rfl := h11 (ready_dep hi 11 (by kernel_rfl))
          have hwz := hw0 (ready_not' hi (by omega))
          subst hwz
          refine wpOp_turn (wr.drew.setCell ⟨w.heap.size, k, none⟩ (I (y - x))) rfl (by rfl) (by go_simp) ?_
          refine ⟨by simpa using hL, _, _, _, _, _, _, _, _, _, _, _, _, _, rfl, fun p hp => ?_, fun h => ?_, fun _ => rfl, (fun h => h0 ((set_other (by decide)).symm.trans h)), (fun h => h1 ((set_other (by decide)).symm.trans h)), (fun h => h2 ((set_other (by decide)).symm.trans h)), (fun h => h3 ((set_other (by decide)).symm.trans h)), (fun h => h4 ((set_other (by decide)).symm.trans h)), (fun h => h5 ((set_other (by decide)).symm.trans h)), (fun h => h6 ((set_other (by decide)).symm.trans h)), (fun h => h7 ((set_other (by decide)).symm.trans h)), (fun h => h8 ((set_other (by decide)).symm.trans h)), (fun h => h9 ((set_other (by decide)).symm.trans h)), (fun h => h10 ((set_other (by decide)).symm.trans h)), (fun h => h11 ((set_other (by decide)).symm.trans h)), (fun h => h12 ((set_other (by decide)).symm.trans h))⟩
          · exact (World.cell?_setCell_other _ _ _ _ (by intro e; subst e; exact absurd hp (Nat.lt_irrefl _))).trans (hce p hp)
          · rw [set_same (by omega)] at h; exact absurd h (by decide)
      · rintro L a w' ⟨hL, v14, v15, v16, v17, v18, v19, v20, v21, v22, v23, v24, v25, v26, rfl, hce, hw0, hw1, h0, h1, h2, h3, h4, h5, h6, h7, h8, h9, h10, h11, h12⟩ hr
        have hall := all_listed hL (by kernel_rfl) hr
        obtain rfl := h0 (hall 0 (by decide))
        obtain rfl := h1 (hall 1 (by decide))
        obtain rfl := h2 (hall 2 (by decide))
        obtain rfl := h3 (hall 3 (by decide))
        obtain rfl := h4 (hall 4 (by decide))
        obtain rfl := h5 (hall 5 (by decide))
        obtain rfl := h6 (hall 6 (by decide))
        obtain rfl := h7 (hall 7 (by decide))
        obtain rfl := h8 (hall 8 (by decide))
        obtain rfl := h9 (hall 9 (by decide))
        obtain rfl := h10 (hall 10 (by decide))
        obtain rfl := h11 (hall 11 (by decide))
        obtain rfl := h12 (hall 12 (by decide))
        have hwz := hw1 (hall 13 (by decide))
        subst hwz
        clear hall hr hL hce hw0 hw1
        try dsimp only
        go_wp2
        go_roundw
        case rel =>
          refine ⟨k + 1, by omega, by go_num, Lib.hid ?_, ?_⟩
          · rw [← dfT_arr l m k hdl hlt HM.out, HN.out, HN1.out]
            exact row_set (show wr.drew.heap[w.heap.size]? = _ from HG.out) _ _
          · exact (hBl.trans (Below.refl _ _).drew).setCell (Nat.le_refl _) _
        case measure => simp [intOf]; omega
    · obtain rfl : k = m := by omega
      go_wp2
      go_ret
      have hg := HG.out
      rw [dfT_all l k hdl] at hg
      have hd := ints_block hg
      exact ⟨_, _, rfl, hd, hBl⟩
end Go.Proofs.Ytfjincdlenneaaa
/-
  CONTRACTS: isConstant, by slices.ContainsFunc and slices.IndexFunc over its own closure.
-/
namespace Go.Proofs.Ytfjincdlenneaaa
open Go.RowKit Go.Shelf
theorem allEq_nth (l : List Int) : allEq l = l.all (fun n => n == nth l 0) := by
  cases l <;> simp [allEq, nth]
theorem cmp_ne (a b : Int) : (a != b) = !(a == b) := rfl

set_option maxHeartbeats 400000 in
theorem constLit_any (A : Option Addr) (c g : Nat) (l : List Int) (v : Int) (w : World) (hx : IntsR w w.heap.size A l) (h1 : 1 ≤ l.length) (hl : l.length ≤ 64) (hg : w.cell? ⟨g, 0, none⟩ = some (.slice A l.length c)) :
    Calls Try.prog 152 #[I v, .pointer (some ⟨g, 0, none⟩)] w fun e w' => e = .returned (.bool (v != nth l 0)) ∧ w' = w := by
  obtain ⟨ad, rfl, hbl, hc⟩ := hx.at_ (k := 0) (by omega)
  have hc' : w.cell? ad = some (I (nth l 0)) := hc
  go_enter Try.func152, Try.ntmps152
  go_wp2_with fail
  go_ret
  exact ⟨ret_bool rfl, rfl⟩

set_option maxHeartbeats 1000000 in
theorem indexConst_any (A : Option Addr) (c g : Nat) (l : List Int) (w : World) (hx : IntsR w w.heap.size A l) (h1 : 1 ≤ l.length) (hl : l.length ≤ 64) (hg : w.cell? ⟨g, 0, none⟩ = some (.slice A l.length c)) :
    Calls Try.prog 168 #[.slice A l.length c, .func (.func 152) #[] #[.pointer (some ⟨g, 0, none⟩)]] w fun e w' => ∃ r : Int, e = .returned (I r) ∧ decide (0 ≤ r) = !allEq l ∧ w' = w := by
  go_enter Try.func168, Try.ntmps168
  go_wp2_with fail
  go_loop [8] (fun i => ∃ k : Nat, k ≤ l.length ∧ i = .int .i64 k ∧ Hid ((l.take k).all (fun n => n == nth l 0) = true)) (fun i => l.length - (intOf i).toNat)
  case atStart => exact ⟨0, Nat.zero_le _, rfl, Lib.hid rfl⟩
  case round =>
    obtain ⟨k, hk, rfl, HA⟩ := hrel
    by_cases hlt : k < l.length
    · obtain ⟨ad, rfl, hbl, hc⟩ := hx.at_ (k := k) hlt
      cases hp : nth l k == nth l 0
      · have hp2 : (nth l k != nth l 0) = true := by rw [cmp_ne, hp]; rfl
        have H2 := Lib.hid (show allEq l = false by rw [allEq_nth]; exact not_all _ l k hlt hp)
        go_wp2_with fail
        refine (constLit_any _ _ _ _ _ _ hx h1 hl hg).mono ?_
        rintro e w2 ⟨rfl, rfl⟩
        rw [hp2]
        go_wp2
        go_ret
        exact ⟨_, rfl, by rw [H2.out]; simp, rfl⟩
      · have hp2 : (nth l k != nth l 0) = false := by rw [cmp_ne, hp]; rfl
        have H2 := Lib.hid (all_take_snoc (fun n => n == nth l 0) l k hlt HA.out hp)
        go_wp2_with fail
        refine (constLit_any _ _ _ _ _ _ hx h1 hl hg).mono ?_
        rintro e w2 ⟨rfl, rfl⟩
        rw [hp2]
        go_wp2
        go_round
        case rel => exact ⟨k + 1, by omega, by go_num, H2⟩
        case measure => simp [intOf]; omega
    · obtain rfl : k = l.length := by omega
      rw [List.take_length] at HA
      go_wp2
      go_ret
      exact ⟨_, rfl, by rw [allEq_nth, HA.out]; rfl, rfl⟩

set_option maxHeartbeats 400000 in
theorem containsConst_any (A : Option Addr) (c g : Nat) (l : List Int) (w : World) (hx : IntsR w w.heap.size A l) (h1 : 1 ≤ l.length) (hl : l.length ≤ 64) (hg : w.cell? ⟨g, 0, none⟩ = some (.slice A l.length c)) :
    Calls Try.prog 151 #[.slice A l.length c, .func (.func 152) #[] #[.pointer (some ⟨g, 0, none⟩)]] w fun e w' => e = .returned (.bool (!allEq l)) ∧ w' = w := by
  go_enter Try.func151, Try.ntmps151
  go_wp2_with (go_at_call 168; refine (indexConst_any _ _ _ _ _ hx h1 hl hg).mono ?_; rintro e w' ⟨r, rfl, hr, rfl⟩)
  go_ret
  exact ⟨ret_bool (by rw [← hr]), rfl⟩

set_option maxHeartbeats 400000 in
theorem isConstant_any (A : Option Addr) (c : Nat) (l : List Int) (w : World) (hx : IntsR w w.heap.size A l) (h1 : 1 ≤ l.length) (hl : l.length ≤ 64) :
    Calls Try.prog 132 #[.slice A l.length c] w fun e w' => e = .returned (.bool (allEq l)) ∧ Below w.heap.size w w' := by
  have hb1 : Below w.heap.size w (w.alloc (.cells #[.slice A l.length c] 29)) := (Below.refl _ _).alloc (Nat.le_refl _) _
  have hx1 := ints_call hb1 hx
  have hg : (w.alloc (.cells #[.slice A l.length c] 29)).cell? ⟨w.heap.size, 0, none⟩ = some (.slice A l.length c) := alloc_cell _ _ _ 0
  go_enter Try.func132, Try.ntmps132
  go_wp2_with (go_at_call 151; refine (containsConst_any _ _ _ _ _ hx1 h1 hl hg).mono ?_; rintro e w' ⟨rfl, rfl⟩)
  go_ret
  exact ⟨ret_bool (by simp), hb1⟩
end Go.Proofs.Ytfjincdlenneaaa
/-
  CONTRACT: following: what comes behind a sequence, by differences.
-/
namespace Go.Proofs.Ytfjincdlenneaaa
open Go.RowKit Go.Shelf
def folV (o : Option (Int × Nat)) : Value := match o with | some r => .tuple #[I r.1, I r.2, .bool true] | none => .tuple #[I 0, I 0, .bool false]
theorem lastD_nth {l : List Int} {n : Nat} (h : l.length = n + 1) : l.getLastD 0 = nth l n := by
  have hne : l ≠ [] := by intro e; subst e; simp at h
  rw [List.getLastD_eq_getLast?, List.getLast?_eq_getElem?, h, nth]
  rfl
theorem nxt_short {f : Nat} {l : List Int} (h : l.length < 2) : nxt f l = none := by
  cases f with
  | zero => rfl
  | succ f => rw [nxt, if_pos h]
theorem Bnd.diffs {b : Nat} {l : List Int} (h : Bnd b l) : Bnd (2 * b) (diffs l) := by
  intro i hi
  have hi' := hi
  rw [diffs_length] at hi'
  have a := h i (by omega)
  have c := h (i + 1) (by omega)
  rw [nth_lt hi, diffs_at l i (by omega)]
  rw [nth_lt (by omega)] at a c
  omega
theorem pow_step {b n M : Nat} (h : b * 2 ^ (n + 1) ≤ M) : 2 * b * 2 ^ n ≤ M := by
  rw [Nat.pow_succ] at h
  rw [Nat.mul_comm 2 b, Nat.mul_assoc]
  rwa [Nat.mul_comm (2 ^ n) 2] at h
theorem pow_most {b n M : Nat} (h : b * 2 ^ n ≤ M) : b ≤ M := Nat.le_trans (Nat.le_mul_of_pos_right b (Nat.pow_pos (by omega))) h
/-- where the sequence stands: what follows it is what has been added and what follows the list at hand -/
def Fol (l l' : List Int) (acc : Int) (j : Nat) : Prop := nxt l.length l = (nxt l'.length l').map (fun r => (acc + r.1, r.2 + j))
theorem Fol.step {l l' : List Int} {acc : Int} {j n : Nat} (h : Fol l l' acc j) (hn : l'.length = n + 2) (hq : allEq l' = false) : Fol l (diffs l') (acc + nth l' (n + 1)) (j + 1) := by
  have hd : (diffs l').length = n + 1 := by rw [diffs_length, hn]; rfl
  rw [Fol] at h ⊢
  rw [h, hd]
  have e : nxt l'.length l' = (nxt (n + 1) (diffs l')).map (fun r => (nth l' (n + 1) + r.1, r.2 + 1)) := by
    rw [hn, nxt, if_neg (by omega), hq, lastD_nth hn]
    rfl
  rw [e, Option.map_map]
  congr 1
  funext r
  simp only [Function.comp]
  rw [Int.add_assoc, Nat.add_assoc, Nat.add_comm 1 j]
theorem Fol.stop {l l' : List Int} {acc : Int} {j n : Nat} (h : Fol l l' acc j) (hn : l'.length = n + 2) (hq : allEq l' = true) : nxt l.length l = some (acc + nth l' (n + 1), j) := by
  rw [Fol] at h
  have e : nxt l'.length l' = some (nth l' (n + 1), 0) := by rw [hn, nxt, if_neg (by omega), hq, lastD_nth hn]; rfl
  rw [h, e]
  simp
theorem Fol.none {l l' : List Int} {acc : Int} {j : Nat} (h : Fol l l' acc j) (hn : l'.length < 2) : nxt l.length l = none := by
  rw [Fol, nxt_short hn] at h
  exact h

theorem isConstant_at {l : List Int} {n : Nat} (hn : l.length = n) (A : Option Addr) (c : Nat) (w : World) (hx : IntsR w w.heap.size A l) (h1 : 1 ≤ l.length) (hl : l.length ≤ 64) :
    Calls Try.prog 132 #[.slice A n c] w fun e w' => e = .returned (.bool (allEq l)) ∧ Below w.heap.size w w' := by
  subst hn; exact isConstant_any A c l w hx h1 hl
theorem differences_at {l : List Int} {n : Nat} (hn : l.length = n) (A : Option Addr) (c b : Nat) (w : World) (hx : IntsR w w.heap.size A l) (h1 : 1 ≤ l.length) (hl : l.length ≤ 64) (hb : b ≤ 1000000000000000) (hB : Bnd b l) :
    Calls Try.prog 131 #[.slice A n c] w fun e w' => ∃ A' c', e = .returned (.slice A' (diffs l).length c') ∧ IntsR w' w'.heap.size A' (diffs l) ∧ Below w.heap.size w w' := by
  subst hn; exact differences_any A c l b w hx h1 hl hb hB

set_option maxRecDepth 100000 in
set_option maxHeartbeats 1000000 in
theorem following_any (A : Option Addr) (c : Nat) (l : List Int) (w : World) (hx : IntsR w w.heap.size A l) (hl : l.length ≤ 20) (hB : Bnd 10000 l) :
    Calls Try.prog 79 #[.slice A l.length c] w fun e w' => e = .returned (folV (nxt l.length l)) ∧ Below w.heap.size w w' := by
  have hP : 10000 * 2 ^ l.length ≤ 10000000000000 := by
    have : 2 ^ l.length ≤ 2 ^ 20 := Nat.pow_le_pow_right (by omega) hl
    omega
  have HB := Lib.hid hB
  have HX := Lib.hid hx
  have HP := Lib.hid hP
  clear hB hx hP
  go_enter Try.func79, Try.ntmps79
  go_wp2_with fail
  go_loopw [0, 2, 3] (fun s n d wr => ∃ (l' : List Int) (A' : Option Addr) (c' j b : Nat) (acc : Int), s = .slice A' l'.length c' ∧ n = .int .i64 acc ∧ d = .int .i64 j ∧ j + l'.length = l.length ∧ Hid (Fol l l' acc j) ∧ Hid (IntsR wr wr.heap.size A' l') ∧ Hid (Bnd b l') ∧ -(b : Int) ≤ acc ∧ acc ≤ b ∧ Hid (b * 2 ^ l'.length ≤ 10000000000000) ∧ Below w.heap.size w wr) (fun _ _ d _ => 64 - (intOf d).toNat)
  case atStart => exact ⟨l, A, c, 0, 10000, 0, rfl, rfl, rfl, by omega, Lib.hid (by rw [Fol]; simp), HX, HB, by omega, by omega, HP, Below.refl _ _⟩
  case round =>
    obtain ⟨l', A', c', j, b, acc, rfl, rfl, rfl, hj, HF, HX', HB', ha1, ha2, HQ, hBl⟩ := hrel
    have hbM := pow_most HQ.out
    clear HX HB HP
    rcases Nat.lt_or_ge l'.length 2 with h2 | h2
    · have H0 := Lib.hid (HF.out.none h2)
      go_wp2_with fail
      go_ret3
      exact ⟨by rw [H0.out]; rfl, hBl⟩
    · obtain ⟨n, hn⟩ : ∃ n, l'.length = n + 2 := ⟨l'.length - 2, by omega⟩
      obtain ⟨ad, rfl, hbl, hc⟩ := HX'.out.at_ (k := n + 1) (by omega)
      have hbd := HB'.out (n + 1) (by omega)
      have hb1 := hbd.1
      have hb2 := hbd.2
      have HN := Lib.hid hn
      clear hbd
      generalize hxv : nth l' (n + 1) = x at *
      have HV := Lib.hid hxv
      have ead : ad.add (n + 1) = ⟨ad.block, ad.off + (n + 1), none⟩ := by simp [Addr.add]
      rw [ead] at hc
      clear ead hxv
      rw [hn] at hj ⊢
      have ex : IntKind.i64.wrap (acc + x) = acc + x := (IntWalk.i64_left _).trans (IntWalk.wrap64_in _ ⟨by omega, by omega⟩)
      have en : IntKind.i64.wrap ((n : Int) + 2 - 1) = (n : Int) + 1 := by rw [show (n : Int) + 2 - 1 = (n : Int) + 1 by omega]; exact (IntWalk.i64_left _).trans (IntWalk.wrap64_in _ ⟨by omega, by omega⟩)
      go_wp2_with fail
      refine (isConstant_at hn (some ad) c' _ HX'.out (by omega) (by omega)).mono ?_
      rintro e w2 ⟨rfl, hb3⟩
      have hx2 := ints_call hb3 HX'.out
      have HX2 := Lib.hid hx2
      have hB2 : Below w.heap.size w w2 := hBl.trans (hb3.mono hBl.size)
      clear hc hbl hBl hb3 hx2 HX'
      cases hq : allEq l'
      · have HF2 := Lib.hid (HF.out.step hn hq)
        go_wp2_with fail
        refine (differences_at hn (some ad) c' b _ HX2.out (by omega) (by omega) (by omega) HB'.out).mono ?_
        rintro e w3 ⟨A3, c3, rfl, hx3, hb4⟩
        have hdl : (diffs l').length = n + 1 := by rw [diffs_length, hn]; rfl
        have hB3 : Below w.heap.size w w3 := hB2.trans (hb4.mono hB2.size)
        go_wp2_with fail
        go_roundw
        case rel => exact ⟨diffs l', A3, c3, j + 1, 2 * b, acc + x, by rw [hdl], rfl, by go_num, by omega, Lib.hid (by rw [← HV.out]; exact HF2.out), Lib.hid hx3, Lib.hid HB'.out.diffs, by omega, by omega, Lib.hid (by rw [hdl]; exact pow_step (by rw [← hn]; exact HQ.out)), hB3⟩
        case measure => simp [intOf]; omega
      · have H0 := Lib.hid (HF.out.stop hn hq)
        go_wp2_with fail
        go_ret3
        exact ⟨by rw [H0.out, HV.out]; rfl, hB2⟩
end Go.Proofs.Ytfjincdlenneaaa
/-
  CONTRACT: puzzles.Next.
-/
namespace Go.Proofs.Ytfjincdlenneaaa
open Go.RowKit Go.Shelf
def seqB (l : List Int) : Bool := wi l.length 2 20 && inB (-10000) 10000 l
def nextV (l : List Int) : Value :=
  if seqB l then (match nxt l.length l with | some r => .tuple #[I r.1, I r.2, I 0] | none => .tuple #[I 0, I 0, I 3]) else .tuple #[I 0, I 0, I 1]
theorem inB_bnd {l : List Int} {b : Nat} (h : inB (-(b : Int)) b l = true) : Bnd b l := by
  intro i hi
  have := List.all_eq_true.1 h (nth l i) (by rw [nth_lt hi]; exact List.getElem_mem _)
  simpa [wi] using this

set_option maxHeartbeats 400000 in
theorem isSequence_any (A : Option Addr) (c : Nat) (l : List Int) (w : World) (hx : IntsR w w.heap.size A l) (hl : l.length ≤ maxLen) :
    Calls Try.prog 78 #[.slice A l.length c] w fun e w' => e = .returned (.bool (seqB l)) ∧ Below w.heap.size w w' := by
  have hl' := hl
  unfold maxLen at hl'
  cases hq : wi l.length 2 20
  · have H2 := Lib.hid (show seqB l = false by rw [seqB, hq]; rfl)
    go_enter Try.func78, Try.ntmps78
    go_wp2_with (go_at_call 65; refine (within_any _ _ _ _).mono ?_; rintro e w' ⟨rfl, rfl⟩; rw [hq])
    go_ret
    exact ⟨ret_bool H2.out.symm, Below.refl _ _⟩
  · have H2 := Lib.hid (show seqB l = inB (-10000) 10000 l by rw [seqB, hq]; rfl)
    go_enter Try.func78, Try.ntmps78
    go_wp2_with (first | (go_at_call 65; refine (within_any _ _ _ _).mono ?_; rintro e w' ⟨rfl, rfl⟩; rw [hq]) | (go_at_call 130; refine (allWithin_any _ _ _ _ l _ hx hl).mono ?_; rintro e w' ⟨rfl, hb⟩))
    go_ret
    exact ⟨ret_bool H2.out.symm, hb⟩

theorem unless_any (b : Bool) (n : Int) (w : World) :
    Calls Try.prog 64 #[.bool b, I n] w fun e w' => e = .returned (I (if b then 0 else n)) ∧ w' = w := by
  cases b
  · go_enter Try.func64, Try.ntmps64
    go_wp2
    go_ret
    exact ⟨rfl, rfl⟩
  · go_enter Try.func64, Try.ntmps64
    go_wp2
    go_ret
    exact ⟨rfl, rfl⟩

set_option maxHeartbeats 400000 in
theorem pNext_any (A : Option Addr) (c : Nat) (l : List Int) (w : World) (hx : IntsR w w.heap.size A l) (hl : l.length ≤ maxLen) :
    Calls Try.prog 26 #[.slice A l.length c] w fun e w' => e = .returned (nextV l) ∧ Below w.heap.size w w' := by
  cases hq : seqB l
  · have H2 := Lib.hid (show nextV l = .tuple #[I 0, I 0, I 1] by rw [nextV, hq]; rfl)
    go_enter Try.func26, Try.ntmps26
    go_wp2_with (go_at_call 78; refine (isSequence_any _ _ l _ hx hl).mono ?_; rintro e w' ⟨rfl, hb⟩; rw [hq])
    go_ret3
    exact ⟨by rw [H2.out]; rfl, hb⟩
  · have hw : wi l.length 2 20 = true ∧ inB (-10000) 10000 l = true := by simpa [seqB] using hq
    have hle : l.length ≤ 20 := by have := hw.1; simp [wi] at this; omega
    have hbn : Bnd 10000 l := inB_bnd (b := 10000) hw.2
    clear hw
    have e1 : ∀ w', Below w.heap.size w w' → IntsR w' w'.heap.size A l := fun w' h => ints_call h hx
    cases hn : nxt l.length l with
    | none =>
      have H2 := Lib.hid (show nextV l = .tuple #[I 0, I 0, I 3] by rw [nextV, hq, if_pos rfl, hn])
      have H3 := Lib.hid (show folV (nxt l.length l) = .tuple #[I 0, I 0, .bool false] by rw [hn]; rfl)
      go_enter Try.func26, Try.ntmps26
      go_wp2_with (first
        | (go_at_call 78; refine (isSequence_any _ _ l _ hx hl).mono ?_; rintro e w' ⟨rfl, hb⟩; rw [hq])
        | (go_at_call 79; refine (following_any _ _ l _ (e1 _ hb) hle hbn).mono ?_; rintro e w2 ⟨rfl, hb2⟩; rw [H3.out])
        | (go_at_call 64; refine (unless_any _ _ _).mono ?_; rintro e w3 ⟨rfl, rfl⟩))
      go_ret3
      exact ⟨by rw [H2.out]; rfl, hb.trans (hb2.mono hb.size)⟩
    | some r =>
      obtain ⟨a, d⟩ := r
      have H2 := Lib.hid (show nextV l = .tuple #[I a, I d, I 0] by rw [nextV, hq, if_pos rfl, hn])
      have H3 := Lib.hid (show folV (nxt l.length l) = .tuple #[I a, I d, .bool true] by rw [hn]; rfl)
      go_enter Try.func26, Try.ntmps26
      go_wp2_with (first
        | (go_at_call 78; refine (isSequence_any _ _ l _ hx hl).mono ?_; rintro e w' ⟨rfl, hb⟩; rw [hq])
        | (go_at_call 79; refine (following_any _ _ l _ (e1 _ hb) hle hbn).mono ?_; rintro e w2 ⟨rfl, hb2⟩; rw [H3.out])
        | (go_at_call 64; refine (unless_any _ _ _).mono ?_; rintro e w3 ⟨rfl, rfl⟩))
      go_ret3
      exact ⟨by rw [H2.out]; rfl, hb.trans (hb2.mono hb.size)⟩
end Go.Proofs.Ytfjincdlenneaaa
/-
  CONTRACTS of the document's own answers: padlockref03.equal.
-/
namespace Go.Proofs.Ytfjincdlenneaaa
open Go.RowKit Go.Shelf
theorem below_drewN {B : Nat} {a w : World} (h : Below B a w) (n : Nat) : Below B a (w.drewN n) := ⟨h.os, h.tape, h.output, h.size, h.block⟩

set_option maxRecDepth 100000 in
set_option maxHeartbeats 1000000 in
theorem requal_any (A : Option Addr) (c : Nat) (l : List Int) (w : World) (hx : IntsR w w.heap.size A l) (hl : l.length ≤ 64) :
    Calls Try.prog 80 #[.slice A l.length c] w fun e w' => e = .returned (.bool (allEq l)) ∧ Below w.heap.size w w' := by
  go_enter Try.func80, Try.ntmps80
  go_wp2_with fail
  go_loopw [3] (fun i wr => ∃ k : Nat, k ≤ l.length ∧ i = .int .i64 k ∧ Hid ((l.take k).all (fun n => n == nth l 0) = true) ∧ Below w.heap.size w wr) (fun i _ => l.length - (intOf i).toNat)
  case atStart => exact ⟨0, Nat.zero_le _, rfl, Lib.hid rfl, Below.refl _ _⟩
  case round =>
    obtain ⟨k, hk, rfl, HA, hB⟩ := hrel
    by_cases hlt : k < l.length
    · have hx' := hx.below hB (Nat.le_refl _)
      obtain ⟨ad, rfl, hbl, hc⟩ := hx'.at_ (k := k) hlt
      obtain ⟨ad', hA, hbl', hc0⟩ := hx'.at_ (k := 0) (by omega)
      injection hA with hA
      subst hA
      have hc0' : wr.cell? ad = some (I (nth l 0)) := hc0
      clear hx' hbl' hc0
      cases hp : nth l k == nth l 0
      · have hp2 : (nth l k != nth l 0) = true := by rw [cmp_ne, hp]; rfl
        have H2 := Lib.hid (show allEq l = false by rw [allEq_nth]; exact not_all _ l k hlt hp)
        generalize nth l k = x at *
        generalize nth l 0 = y at *
        go_wp2_with fail
        go_quiet (fail)
        go_wp2
        go_ret
        exact ⟨ret_bool H2.out.symm, below_drewN hB _⟩
      · have hp2 : (nth l k != nth l 0) = false := by rw [cmp_ne, hp]; rfl
        have H2 := Lib.hid (all_take_snoc (fun n => n == nth l 0) l k hlt HA.out hp)
        go_wp2_with fail
        go_quiet (fail)
        go_wp2
        go_roundw
        case rel => exact ⟨k + 1, by omega, by go_num, H2, below_drewN hB _⟩
        case measure => simp [intOf]; omega
    · obtain rfl : k = l.length := by omega
      rw [List.take_length] at HA
      go_wp2
      go_ret
      exact ⟨ret_bool (by rw [allEq_nth, HA.out]), hB⟩
end Go.Proofs.Ytfjincdlenneaaa
