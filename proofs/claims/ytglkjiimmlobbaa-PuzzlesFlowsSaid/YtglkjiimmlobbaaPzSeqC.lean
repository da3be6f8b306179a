/-
  CONTRACTS: differences.
-/
import Derived.Test.YtglkjiimmlobbaaPzLists
import Derived.Test.YtglkjiimmlobbaaPzSeq
import Derived.StillTailTactics
namespace Go.Proofs.Ytglkjiimmlobbaa
open Go.RowKit Go.Shelf
theorem wpOp_turn {P : Program} {ops : Array Oper} {Q : Exit → Act → World → Prop} {i : Nat} {o : Oper} {K : Act → World → Prop} {a : Act} {w : World} (w2 : World) (ho : ops[i]? = some o) (hw : Region.wanted o (yielded ops a.tmps) = true) (hv : (execOp a.eval o).run P w = .ok .skip w2)
    (h : K (a.put o.dst undef) w2) : wpOp P ops Q i K a w := by
  unfold wpOp
  simp only [ho]
  rw [if_pos hw]
  unfold Oper.wp
  rw [hv, Oper.upon_skip]
  exact .inl h
/-- what is bounded -/
def Bnd (b : Nat) (l : List Int) : Prop := ∀ i, i < l.length → -(b : Int) ≤ nth l i ∧ nth l i ≤ b
/-- the differences, as far as they are reckoned -/
def dfT (l : List Int) (m k : Nat) : List Int := (diffs l).take k ++ List.replicate (m - k) 0
theorem dfT_length {l : List Int} {m k : Nat} (h : (diffs l).length = m) (hk : k ≤ m) : (dfT l m k).length = m := by
  rw [dfT, List.length_append, List.length_take, List.length_replicate, h]; omega
theorem dfT_at0 (l : List Int) (m k : Nat) (h : (diffs l).length = m) (hk : k < m) : (dfT l m k)[k]? = some 0 := by
  rw [dfT, List.getElem?_append_right (by rw [List.length_take]; omega), List.length_take, h, List.getElem?_replicate]
  simp; omega
theorem dfT_all (l : List Int) (m : Nat) (h : (diffs l).length = m) : dfT l m m = diffs l := by
  rw [dfT, ← h]; simp
theorem dfT_set (l : List Int) (m k : Nat) (h : (diffs l).length = m) (hk : k < m) (hl : l.length = m + 1) : (dfT l m k).set k (nth l (k + 1) - nth l k) = dfT l m (k + 1) := by
  rw [nth_lt (by omega), nth_lt (by omega), ← diffs_at l k (by omega)]
  refine List.ext_getElem (by rw [List.length_set, dfT_length h (by omega), dfT_length h hk]) fun i h1 h2 => ?_
  rw [dfT_length h hk] at h2
  rw [List.getElem_set]
  by_cases e : k = i
  · subst e
    simp only [if_pos, dfT]
    rw [List.getElem_append_left (by rw [List.length_take]; omega), List.getElem_take]
  · rw [if_neg e]
    simp only [dfT, List.getElem_append, List.length_take, List.getElem_take, List.getElem_replicate]
    rcases Nat.lt_or_gt_of_ne e with h3 | h3
    · rw [dif_neg (by omega), dif_neg (by omega)]
    · rw [dif_pos (by omega), dif_pos (by omega)]
theorem dfT_arr (l : List Int) (m k : Nat) (h : (diffs l).length = m) (hk : k < m) (hl : l.length = m + 1) : (((dfT l m k).map I).toArray).setIfInBounds k (I (nth l (k + 1) - nth l k)) = ((dfT l m (k + 1)).map I).toArray := by
  rw [← dfT_set l m k h hk hl]
  apply Array.toList_inj.1
  simp [List.map_set]

set_option maxRecDepth 100000 in
set_option maxHeartbeats 1000000 in
theorem differences_any (A : Option Addr) (c : Nat) (l : List Int) (b : Nat) (w : World) (hx : IntsR w w.heap.size A l) (h1 : 1 ≤ l.length) (hl : l.length ≤ 64) (hb : b ≤ 1000000000000000) (hB : Bnd b l) :
    Calls Try.prog 131 #[.slice A l.length c] w fun e w' => ∃ A' c', e = .returned (.slice A' (diffs l).length c') ∧ IntsR w' w'.heap.size A' (diffs l) ∧ Below w.heap.size w w' := by
  obtain ⟨m, hm⟩ : ∃ m, l.length = m + 1 := ⟨l.length - 1, by omega⟩
  have hdl : (diffs l).length = m := by rw [diffs_length, hm]; rfl
  have hmk := run_make_row' (P := Try.prog) 29 3 (.int .i64 0) 8 Try.underlying29 info_int rfl .i64 .i64 m (by omega) (by omega)
  simp only [made_zeros] at hmk
  have e1 : wrap64 (((m + 1 : Nat) : Int) - 1) = (m : Int) := by rw [show ((m + 1 : Nat) : Int) - 1 = (m : Int) by omega]; exact IntWalk.wrap64_in _ ⟨by omega, by omega⟩
  rw [hdl, hm]
  go_enter Try.func131, Try.ntmps131
  go_wp2_with fail
  obtain ⟨w1, hw1⟩ : ∃ w1, w1 = w.alloc (.cells (Array.replicate m (I 0)) 3) := ⟨_, rfl⟩
  rw [← hw1]
  have hb1 : Below w.heap.size w w1 := by rw [hw1]; exact (Below.refl _ _).alloc (Nat.le_refl _) _
  have hg1 : w1.heap[w.heap.size]? = some (.cells ((dfT l m 0).map I).toArray 3 (0, 0)) := by
    rw [hw1]; refine (alloc_obj _ _ _ rfl).trans ?_; simp [dfT]
  have HG1 := Lib.hid hg1
  clear hw1 hg1 hmk
  have HX := Lib.hid hx
  have HM := Lib.hid hm
  clear hx
  go_loopw [11] (fun i wr => ∃ k : Nat, k ≤ m ∧ i = .int .i64 k ∧ Hid (wr.heap[w.heap.size]? = some (.cells ((dfT l m k).map I).toArray 3 (0, 0))) ∧ Below w.heap.size w wr) (fun i _ => m - (intOf i).toNat)
  case atStart => exact ⟨0, Nat.zero_le _, rfl, HG1, hb1⟩
  case round =>
    obtain ⟨k, hk, rfl, HG, hBl⟩ := hrel
    by_cases hlt : k < m
    · have hx' := HX.out.below hBl (Nat.le_refl _)
      obtain ⟨ad, rfl, hbl, hc1⟩ := hx'.at_ (k := k) (by omega)
      obtain ⟨ad', hA, hbl', hc2⟩ := hx'.at_ (k := k + 1) (by omega)
      injection hA with hA
      subst hA
      have hbk := hB k (by omega)
      have hbk1 := hB (k + 1) (by omega)
      have q1 := hbk.1
      have q2 := hbk.2
      have q3 := hbk1.1
      have q4 := hbk1.2
      have hcell : wr.cell? ⟨w.heap.size, k, none⟩ = some (I 0) := (cell_of_row wr _ k _ _ _ HG.out).trans (by simp [dfT_at0 l m k hdl hlt])
      have hfr : wr.frozen? ⟨w.heap.size, k, none⟩ = false := frozen_of_row HG.out k
      clear hbk hbk1 hx' hbl'
      generalize hn : nth l k = x at *
      generalize hn1 : nth l (k + 1) = y at *
      have HN := Lib.hid hn
      have HN1 := Lib.hid hn1
      clear hn hn1
      have hfr' : wr.drew.frozen? ⟨w.heap.size, k, none⟩ = false := hfr
      have hcell' : wr.drew.cell? ⟨w.heap.size, k, none⟩ = some (I 0) := hcell
      have ey : IntKind.i64.wrap (y - x) = y - x := (IntWalk.i64_left _).trans (IntWalk.wrap64_in _ ⟨by omega, by omega⟩)
      have ek2 : IntKind.i64.wrap ((k : Int) + 1) = (k : Int) + 1 := (IntWalk.i64_left _).trans (IntWalk.wrap64_in _ ⟨by omega, by omega⟩)
      have ead : ad.add (k + 1) = ⟨ad.block, ad.off + (k + 1), none⟩ := by simp [Addr.add]
      rw [ead] at hc2
      go_wp2_with fail
      clear hb q1 q2 q3 q4 h1 hl
      refine wp_region_inv (by kernel_rfl) (fun L a w' => L.size = 14 ∧ ∃ v14 v15 v16 v17 v18 v19 v20 v21 v22 v23 v24 v25 v26 : Value, a = { tmps := #[.slice (some ad) (m + 1) c, undef, .slice none 0 0, .slice (some ⟨w.heap.size, 0, none⟩) m m, .int .i64 (k : Int), .slice (some ad) (m + 1) c, .int .i64 ((m : Int) + 1), .int .i64 (m : Int), .slice (some ⟨w.heap.size, 0, none⟩) m m, .slice (some ⟨w.heap.size, 0, none⟩) m m, .int .i64 (m : Int), .int .i64 (k : Int), .bool true, .int .i64 (k : Int), v14, v15, v16, v17, v18, v19, v20, v21, v22, v23, v24, v25, v26, u27, undef], defers := [] } ∧ (∀ p : Addr, p.block < w.heap.size → w'.cell? p = wr.cell? p) ∧ (L.getD 13 false = false → w' = wr.drew) ∧ (L.getD 13 false = true → w' = wr.drew.setCell ⟨w.heap.size, k, none⟩ (I (y - x))) ∧ (L.getD 0 false = true → v14 = .slice (some ⟨w.heap.size, 0, none⟩) m m) ∧ (L.getD 1 false = true → v15 = .int .i64 (k : Int)) ∧ (L.getD 2 false = true → v16 = .slice (some ad) (m + 1) c) ∧ (L.getD 3 false = true → v17 = .int .i64 (k : Int)) ∧ (L.getD 4 false = true → v18 = .int .i64 ((k : Int) + 1)) ∧ (L.getD 5 false = true → v19 = .pointer (some ⟨ad.block, ad.off + (k + 1), none⟩)) ∧ (L.getD 6 false = true → v20 = .int .i64 y) ∧ (L.getD 7 false = true → v21 = .slice (some ad) (m + 1) c) ∧ (L.getD 8 false = true → v22 = .int .i64 (k : Int)) ∧ (L.getD 9 false = true → v23 = .pointer (some (ad.add k))) ∧ (L.getD 10 false = true → v24 = .int .i64 x) ∧ (L.getD 11 false = true → v25 = .int .i64 (y - x)) ∧ (L.getD 12 false = true → v26 = .pointer (some ⟨w.heap.size, k, none⟩))) ?_ ?_ ?_
      · exact ⟨by simp, _, _, _, _, _, _, _, _, _, _, _, _, _, rfl, fun p _ => rfl, fun _ => rfl, by simp, by simp, by simp, by simp, by simp, by simp, by simp, by simp, by simp, by simp, by simp, by simp, by simp, by simp⟩
      · rintro i L a w' ⟨hL, v14, v15, v16, v17, v18, v19, v20, v21, v22, v23, v24, v25, v26, rfl, hce, hw0, hw1, h0, h1, h2, h3, h4, h5, h6, h7, h8, h9, h10, h11, h12⟩ hi
        have hcases : i = 0 ∨ i = 1 ∨ i = 2 ∨ i = 3 ∨ i = 4 ∨ i = 5 ∨ i = 6 ∨ i = 7 ∨ i = 8 ∨ i = 9 ∨ i = 10 ∨ i = 11 ∨ i = 12 ∨ i = 13 := by
          have : i < 14 := ready_lt hi
          omega
        have d1 := (hce (ad.add k) (by rw [block_of_add]; exact hbl)).trans hc1
        have d2 := (hce ⟨ad.block, ad.off + (k + 1), none⟩ hbl).trans hc2
        rcases hcases with rfl | rfl | rfl | rfl | rfl | rfl | rfl | rfl | rfl | rfl | rfl | rfl | rfl | rfl
        · refine wpOp_val (.slice (some ⟨w.heap.size, 0, none⟩) m m) rfl (by rfl) (by go_simp) ?_
          exact ⟨by simpa using hL, _, _, _, _, _, _, _, _, _, _, _, _, _, rfl, hce, fun h => hw0 ((set_other (by decide)).symm.trans h), fun h => hw1 ((set_other (by decide)).symm.trans h), fun _ => rfl, (fun h => h1 ((set_other (by decide)).symm.trans h)), (fun h => h2 ((set_other (by decide)).symm.trans h)), (fun h => h3 ((set_other (by decide)).symm.trans h)), (fun h => h4 ((set_other (by decide)).symm.trans h)), (fun h => h5 ((set_other (by decide)).symm.trans h)), (fun h => h6 ((set_other (by decide)).symm.trans h)), (fun h => h7 ((set_other (by decide)).symm.trans h)), (fun h => h8 ((set_other (by decide)).symm.trans h)), (fun h => h9 ((set_other (by decide)).symm.trans h)), (fun h => h10 ((set_other (by decide)).symm.trans h)), (fun h => h11 ((set_other (by decide)).symm.trans h)), (fun h => h12 ((set_other (by decide)).symm.trans h))⟩
        · refine wpOp_val (.int .i64 (k : Int)) rfl (by rfl) (by go_simp) ?_
          exact ⟨by simpa using hL, _, _, _, _, _, _, _, _, _, _, _, _, _, rfl, hce, fun h => hw0 ((set_other (by decide)).symm.trans h), fun h => hw1 ((set_other (by decide)).symm.trans h), (fun h => h0 ((set_other (by decide)).symm.trans h)), fun _ => rfl, (fun h => h2 ((set_other (by decide)).symm.trans h)), (fun h => h3 ((set_other (by decide)).symm.trans h)), (fun h => h4 ((set_other (by decide)).symm.trans h)), (fun h => h5 ((set_other (by decide)).symm.trans h)), (fun h => h6 ((set_other (by decide)).symm.trans h)), (fun h => h7 ((set_other (by decide)).symm.trans h)), (fun h => h8 ((set_other (by decide)).symm.trans h)), (fun h => h9 ((set_other (by decide)).symm.trans h)), (fun h => h10 ((set_other (by decide)).symm.trans h)), (fun h => h11 ((set_other (by decide)).symm.trans h)), (fun h => h12 ((set_other (by decide)).symm.trans h))⟩
        · refine wpOp_val (.slice (some ad) (m + 1) c) rfl (by rfl) (by go_simp) ?_
          exact ⟨by simpa using hL, _, _, _, _, _, _, _, _, _, _, _, _, _, rfl, hce, fun h => hw0 ((set_other (by decide)).symm.trans h), fun h => hw1 ((set_other (by decide)).symm.trans h), (fun h => h0 ((set_other (by decide)).symm.trans h)), (fun h => h1 ((set_other (by decide)).symm.trans h)), fun _ => rfl, (fun h => h3 ((set_other (by decide)).symm.trans h)), (fun h => h4 ((set_other (by decide)).symm.trans h)), (fun h => h5 ((set_other (by decide)).symm.trans h)), (fun h => h6 ((set_other (by decide)).symm.trans h)), (fun h => h7 ((set_other (by decide)).symm.trans h)), (fun h => h8 ((set_other (by decide)).symm.trans h)), (fun h => h9 ((set_other (by decide)).symm.trans h)), (fun h => h10 ((set_other (by decide)).symm.trans h)), (fun h => h11 ((set_other (by decide)).symm.trans h)), (fun h => h12 ((set_other (by decide)).symm.trans h))⟩
        · refine wpOp_val (.int .i64 (k : Int)) rfl (by rfl) (by go_simp) ?_
          exact ⟨by simpa using hL, _, _, _, _, _, _, _, _, _, _, _, _, _, rfl, hce, fun h => hw0 ((set_other (by decide)).symm.trans h), fun h => hw1 ((set_other (by decide)).symm.trans h), (fun h => h0 ((set_other (by decide)).symm.trans h)), (fun h => h1 ((set_other (by decide)).symm.trans h)), (fun h => h2 ((set_other (by decide)).symm.trans h)), fun _ => rfl, (fun h => h4 ((set_other (by decide)).symm.trans h)), (fun h => h5 ((set_other (by decide)).symm.trans h)), (fun h => h6 ((set_other (by decide)).symm.trans h)), (fun h => h7 ((set_other (by decide)).symm.trans h)), (fun h => h8 ((set_other (by decide)).symm.trans h)), (fun h => h9 ((set_other (by decide)).symm.trans h)), (fun h => h10 ((set_other (by decide)).symm.trans h)), (fun h => h11 ((set_other (by decide)).symm.trans h)), (fun h => h12 ((set_other (by decide)).symm.trans h))⟩
        · obtain rfl := h3 (ready_dep hi 3 (by kernel_rfl))
          refine wpOp_val (.int .i64 ((k : Int) + 1)) rfl (by rfl) (by go_simp) ?_
          exact ⟨by simpa using hL, _, _, _, _, _, _, _, _, _, _, _, _, _, rfl, hce, fun h => hw0 ((set_other (by decide)).symm.trans h), fun h => hw1 ((set_other (by decide)).symm.trans h), (fun h => h0 ((set_other (by decide)).symm.trans h)), (fun h => h1 ((set_other (by decide)).symm.trans h)), (fun h => h2 ((set_other (by decide)).symm.trans h)), (fun h => h3 ((set_other (by decide)).symm.trans h)), fun _ => rfl, (fun h => h5 ((set_other (by decide)).symm.trans h)), (fun h => h6 ((set_other (by decide)).symm.trans h)), (fun h => h7 ((set_other (by decide)).symm.trans h)), (fun h => h8 ((set_other (by decide)).symm.trans h)), (fun h => h9 ((set_other (by decide)).symm.trans h)), (fun h => h10 ((set_other (by decide)).symm.trans h)), (fun h => h11 ((set_other (by decide)).symm.trans h)), (fun h => h12 ((set_other (by decide)).symm.trans h))⟩
        · obtain rfl := h2 (ready_dep hi 2 (by kernel_rfl))
          obtain rfl := h4 (ready_dep hi 4 (by kernel_rfl))
          refine wpOp_val (.pointer (some ⟨ad.block, ad.off + (k + 1), none⟩)) rfl (by rfl) (by go_simp; intro h; exfalso; omega) ?_
          exact ⟨by simpa using hL, _, _, _, _, _, _, _, _, _, _, _, _, _, rfl, hce, fun h => hw0 ((set_other (by decide)).symm.trans h), fun h => hw1 ((set_other (by decide)).symm.trans h), (fun h => h0 ((set_other (by decide)).symm.trans h)), (fun h => h1 ((set_other (by decide)).symm.trans h)), (fun h => h2 ((set_other (by decide)).symm.trans h)), (fun h => h3 ((set_other (by decide)).symm.trans h)), (fun h => h4 ((set_other (by decide)).symm.trans h)), fun _ => rfl, (fun h => h6 ((set_other (by decide)).symm.trans h)), (fun h => h7 ((set_other (by decide)).symm.trans h)), (fun h => h8 ((set_other (by decide)).symm.trans h)), (fun h => h9 ((set_other (by decide)).symm.trans h)), (fun h => h10 ((set_other (by decide)).symm.trans h)), (fun h => h11 ((set_other (by decide)).symm.trans h)), (fun h => h12 ((set_other (by decide)).symm.trans h))⟩
        · obtain rfl := h5 (ready_dep hi 5 (by kernel_rfl))
          refine wpOp_val (.int .i64 y) rfl (by rfl) (by go_simp) ?_
          exact ⟨by simpa using hL, _, _, _, _, _, _, _, _, _, _, _, _, _, rfl, hce, fun h => hw0 ((set_other (by decide)).symm.trans h), fun h => hw1 ((set_other (by decide)).symm.trans h), (fun h => h0 ((set_other (by decide)).symm.trans h)), (fun h => h1 ((set_other (by decide)).symm.trans h)), (fun h => h2 ((set_other (by decide)).symm.trans h)), (fun h => h3 ((set_other (by decide)).symm.trans h)), (fun h => h4 ((set_other (by decide)).symm.trans h)), (fun h => h5 ((set_other (by decide)).symm.trans h)), fun _ => rfl, (fun h => h7 ((set_other (by decide)).symm.trans h)), (fun h => h8 ((set_other (by decide)).symm.trans h)), (fun h => h9 ((set_other (by decide)).symm.trans h)), (fun h => h10 ((set_other (by decide)).symm.trans h)), (fun h => h11 ((set_other (by decide)).symm.trans h)), (fun h => h12 ((set_other (by decide)).symm.trans h))⟩
        · refine wpOp_val (.slice (some ad) (m + 1) c) rfl (by rfl) (by go_simp) ?_
          exact ⟨by simpa using hL, _, _, _, _, _, _, _, _, _, _, _, _, _, rfl, hce, fun h => hw0 ((set_other (by decide)).symm.trans h), fun h => hw1 ((set_other (by decide)).symm.trans h), (fun h => h0 ((set_other (by decide)).symm.trans h)), (fun h => h1 ((set_other (by decide)).symm.trans h)), (fun h => h2 ((set_other (by decide)).symm.trans h)), (fun h => h3 ((set_other (by decide)).symm.trans h)), (fun h => h4 ((set_other (by decide)).symm.trans h)), (fun h => h5 ((set_other (by decide)).symm.trans h)), (fun h => h6 ((set_other (by decide)).symm.trans h)), fun _ => rfl, (fun h => h8 ((set_other (by decide)).symm.trans h)), (fun h => h9 ((set_other (by decide)).symm.trans h)), (fun h => h10 ((set_other (by decide)).symm.trans h)), (fun h => h11 ((set_other (by decide)).symm.trans h)), (fun h => h12 ((set_other (by decide)).symm.trans h))⟩
        · refine wpOp_val (.int .i64 (k : Int)) rfl (by rfl) (by go_simp) ?_
          exact ⟨by simpa using hL, _, _, _, _, _, _, _, _, _, _, _, _, _, rfl, hce, fun h => hw0 ((set_other (by decide)).symm.trans h), fun h => hw1 ((set_other (by decide)).symm.trans h), (fun h => h0 ((set_other (by decide)).symm.trans h)), (fun h => h1 ((set_other (by decide)).symm.trans h)), (fun h => h2 ((set_other (by decide)).symm.trans h)), (fun h => h3 ((set_other (by decide)).symm.trans h)), (fun h => h4 ((set_other (by decide)).symm.trans h)), (fun h => h5 ((set_other (by decide)).symm.trans h)), (fun h => h6 ((set_other (by decide)).symm.trans h)), (fun h => h7 ((set_other (by decide)).symm.trans h)), fun _ => rfl, (fun h => h9 ((set_other (by decide)).symm.trans h)), (fun h => h10 ((set_other (by decide)).symm.trans h)), (fun h => h11 ((set_other (by decide)).symm.trans h)), (fun h => h12 ((set_other (by decide)).symm.trans h))⟩
        · obtain rfl := h7 (ready_dep hi 7 (by kernel_rfl))
          obtain rfl := h8 (ready_dep hi 8 (by kernel_rfl))
          refine wpOp_val (.pointer (some (ad.add k))) rfl (by rfl) (by go_simp; intro h; exfalso; omega) ?_
          exact ⟨by simpa using hL, _, _, _, _, _, _, _, _, _, _, _, _, _, rfl, hce, fun h => hw0 ((set_other (by decide)).symm.trans h), fun h => hw1 ((set_other (by decide)).symm.trans h), (fun h => h0 ((set_other (by decide)).symm.trans h)), (fun h => h1 ((set_other (by decide)).symm.trans h)), (fun h => h2 ((set_other (by decide)).symm.trans h)), (fun h => h3 ((set_other (by decide)).symm.trans h)), (fun h => h4 ((set_other (by decide)).symm.trans h)), (fun h => h5 ((set_other (by decide)).symm.trans h)), (fun h => h6 ((set_other (by decide)).symm.trans h)), (fun h => h7 ((set_other (by decide)).symm.trans h)), (fun h => h8 ((set_other (by decide)).symm.trans h)), fun _ => rfl, (fun h => h10 ((set_other (by decide)).symm.trans h)), (fun h => h11 ((set_other (by decide)).symm.trans h)), (fun h => h12 ((set_other (by decide)).symm.trans h))⟩
        · obtain rfl := h9 (ready_dep hi 9 (by kernel_rfl))
          refine wpOp_val (.int .i64 x) rfl (by rfl) (by go_simp) ?_
          exact ⟨by simpa using hL, _, _, _, _, _, _, _, _, _, _, _, _, _, rfl, hce, fun h => hw0 ((set_other (by decide)).symm.trans h), fun h => hw1 ((set_other (by decide)).symm.trans h), (fun h => h0 ((set_other (by decide)).symm.trans h)), (fun h => h1 ((set_other (by decide)).symm.trans h)), (fun h => h2 ((set_other (by decide)).symm.trans h)), (fun h => h3 ((set_other (by decide)).symm.trans h)), (fun h => h4 ((set_other (by decide)).symm.trans h)), (fun h => h5 ((set_other (by decide)).symm.trans h)), (fun h => h6 ((set_other (by decide)).symm.trans h)), (fun h => h7 ((set_other (by decide)).symm.trans h)), (fun h => h8 ((set_other (by decide)).symm.trans h)), (fun h => h9 ((set_other (by decide)).symm.trans h)), fun _ => rfl, (fun h => h11 ((set_other (by decide)).symm.trans h)), (fun h => h12 ((set_other (by decide)).symm.trans h))⟩
        · obtain rfl := h6 (ready_dep hi 6 (by kernel_rfl))
          obtain rfl := h10 (ready_dep hi 10 (by kernel_rfl))
          refine wpOp_val (.int .i64 (y - x)) rfl (by rfl) (by go_simp) ?_
          exact ⟨by simpa using hL, _, _, _, _, _, _, _, _, _, _, _, _, _, rfl, hce, fun h => hw0 ((set_other (by decide)).symm.trans h), fun h => hw1 ((set_other (by decide)).symm.trans h), (fun h => h0 ((set_other (by decide)).symm.trans h)), (fun h => h1 ((set_other (by decide)).symm.trans h)), (fun h => h2 ((set_other (by decide)).symm.trans h)), (fun h => h3 ((set_other (by decide)).symm.trans h)), (fun h => h4 ((set_other (by decide)).symm.trans h)), (fun h => h5 ((set_other (by decide)).symm.trans h)), (fun h => h6 ((set_other (by decide)).symm.trans h)), (fun h => h7 ((set_other (by decide)).symm.trans h)), (fun h => h8 ((set_other (by decide)).symm.trans h)), (fun h => h9 ((set_other (by decide)).symm.trans h)), (fun h => h10 ((set_other (by decide)).symm.trans h)), fun _ => rfl, (fun h => h12 ((set_other (by decide)).symm.trans h))⟩
        · obtain rfl := h0 (ready_dep hi 0 (by kernel_rfl))
          obtain rfl := h1 (ready_dep hi 1 (by kernel_rfl))
          refine wpOp_val (.pointer (some ⟨w.heap.size, k, none⟩)) rfl (by rfl) (by go_simp) ?_
          exact ⟨by simpa using hL, _, _, _, _, _, _, _, _, _, _, _, _, _, rfl, hce, fun h => hw0 ((set_other (by decide)).symm.trans h), fun h => hw1 ((set_other (by decide)).symm.trans h), (fun h => h0 ((set_other (by decide)).symm.trans h)), (fun h => h1 ((set_other (by decide)).symm.trans h)), (fun h => h2 ((set_other (by decide)).symm.trans h)), (fun h => h3 ((set_other (by decide)).symm.trans h)), (fun h => h4 ((set_other (by decide)).symm.trans h)), (fun h => h5 ((set_other (by decide)).symm.trans h)), (fun h => h6 ((set_other (by decide)).symm.trans h)), (fun h => h7 ((set_other (by decide)).symm.trans h)), (fun h => h8 ((set_other (by decide)).symm.trans h)), (fun h => h9 ((set_other (by decide)).symm.trans h)), (fun h => h10 ((set_other (by decide)).symm.trans h)), (fun h => h11 ((set_other (by decide)).symm.trans h)), fun _ => rfl⟩
        · obtain rfl := h12 (ready_dep hi 12 (by kernel_rfl))
          obtain rfl := h11 (ready_dep hi 11 (by kernel_rfl))
          have hwz := hw0 (ready_not' hi (by omega))
          subst hwz
          refine wpOp_turn (wr.drew.setCell ⟨w.heap.size, k, none⟩ (I (y - x))) rfl (by rfl) (by go_simp) ?_
          refine ⟨by simpa using hL, _, _, _, _, _, _, _, _, _, _, _, _, _, rfl, fun p hp => ?_, fun h => ?_, fun _ => rfl, (fun h => h0 ((set_other (by decide)).symm.trans h)), (fun h => h1 ((set_other (by decide)).symm.trans h)), (fun h => h2 ((set_other (by decide)).symm.trans h)), (fun h => h3 ((set_other (by decide)).symm.trans h)), (fun h => h4 ((set_other (by decide)).symm.trans h)), (fun h => h5 ((set_other (by decide)).symm.trans h)), (fun h => h6 ((set_other (by decide)).symm.trans h)), (fun h => h7 ((set_other (by decide)).symm.trans h)), (fun h => h8 ((set_other (by decide)).symm.trans h)), (fun h => h9 ((set_other (by decide)).symm.trans h)), (fun h => h10 ((set_other (by decide)).symm.trans h)), (fun h => h11 ((set_other (by decide)).symm.trans h)), (fun h => h12 ((set_other (by decide)).symm.trans h))⟩
          · exact (World.cell?_setCell_other _ _ _ _ (by intro e; subst e; exact absurd hp (Nat.lt_irrefl _))).trans (hce p hp)
          · rw [set_same (by omega)] at h; exact absurd h (by decide)
      · rintro L a w' ⟨hL, v14, v15, v16, v17, v18, v19, v20, v21, v22, v23, v24, v25, v26, rfl, hce, hw0, hw1, h0, h1, h2, h3, h4, h5, h6, h7, h8, h9, h10, h11, h12⟩ hr
        have hall := all_listed hL (by kernel_rfl) hr
        obtain rfl := h0 (hall 0 (by decide))
        obtain rfl := h1 (hall 1 (by decide))
        obtain rfl := h2 (hall 2 (by decide))
        obtain rfl := h3 (hall 3 (by decide))
        obtain rfl := h4 (hall 4 (by decide))
        obtain rfl := h5 (hall 5 (by decide))
        obtain rfl := h6 (hall 6 (by decide))
        obtain rfl := h7 (hall 7 (by decide))
        obtain rfl := h8 (hall 8 (by decide))
        obtain rfl := h9 (hall 9 (by decide))
        obtain rfl := h10 (hall 10 (by decide))
        obtain rfl := h11 (hall 11 (by decide))
        obtain rfl := h12 (hall 12 (by decide))
        have hwz := hw1 (hall 13 (by decide))
        subst hwz
        clear hall hr hL hce hw0 hw1
        try dsimp only
        go_wp2
        go_roundw
        case rel =>
          refine ⟨k + 1, by omega, by go_num, Lib.hid ?_, ?_⟩
          · rw [← dfT_arr l m k hdl hlt HM.out, HN.out, HN1.out]
            exact row_set (show wr.drew.heap[w.heap.size]? = _ from HG.out) _ _
          · exact (hBl.trans (Below.refl _ _).drew).setCell (Nat.le_refl _) _
        case measure => simp [intOf]; omega
    · obtain rfl : k = m := by omega
      go_wp2
      go_ret
      have hg := HG.out
      rw [dfT_all l k hdl] at hg
      have hd := ints_block hg
      exact ⟨_, _, rfl, hd, hBl⟩
end Go.Proofs.Ytglkjiimmlobbaa
