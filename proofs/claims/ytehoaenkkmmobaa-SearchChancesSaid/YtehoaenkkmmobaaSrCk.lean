/-
  LAYER 6, PURE: the program's Check and the document's are the same (a distance that fits is less than the number of positions).
-/
import Derived.Test.YtehoaenkkmmobaaSrLay
namespace Go.Proofs.Ytehoaenkkmmobaa
open Go.RowKit Go.Shelf
/-- where all distances are at least -1 the two ways to find the least are one -/
theorem fold_same {D : List Int} (hb : ∀ k, -1 ≤ nth D k) : ∀ (es : List Ed) (l : Int), -1 ≤ l → es.foldl (dstep D) l = es.foldl (rst D) l ∧ -1 ≤ es.foldl (rst D) l := by
  intro es
  induction es with
  | nil => intro l h; exact ⟨rfl, h⟩
  | cons a t ih =>
    intro l h
    have h1 := hb a.to.toNat
    have e : dstep D l a = rst D l a := by
      have c1 : (nth D a.to.toNat != -1) = decide (0 ≤ nth D a.to.toNat) := by
        by_cases q : nth D a.to.toNat = -1
        · rw [q]; rfl
        · rw [bne_iff_ne.2 q, decide_eq_true (by omega)]
      have c2 : (l == -1) = decide (l < 0) := by
        by_cases q : l = -1
        · rw [q]; rfl
        · rw [beq_eq_false_iff_ne.2 q, decide_eq_false (by omega)]
      rw [dstep, rst, c1, c2]
    have h2 : -1 ≤ rst D l a := by unfold rst; split <;> omega
    rw [List.foldl_cons, List.foldl_cons, e]
    exact ih _ h2
theorem rfold_got (D : List Int) : ∀ (es : List Ed) (l : Int), es.foldl (rst D) l = l ∨ ∃ e ∈ es, nth D e.to.toNat = es.foldl (rst D) l := by
  intro es
  induction es with
  | nil => intro l; exact .inl rfl
  | cons a t ih =>
    intro l
    rw [List.foldl_cons]
    rcases ih (rst D l a) with h | ⟨e, he, h⟩
    · rw [h]
      unfold rst
      split
      · exact .inr ⟨a, by simp, rfl⟩
      · exact .inl rfl
    · exact .inr ⟨e, by simp [he], h⟩
theorem want_same {D : List Int} (hb : ∀ k, -1 ≤ nth D k ∧ nth D k ≤ 1000) (es : List Ed) : dstE D es = rwt D es := by
  have h := fold_same (fun k => (hb k).1) es (-1) (Int.le_refl _)
  have e1 : dbt D es es.length = es.foldl (dstep D) (-1) := by rw [dbt, List.take_length]
  have e2 : rlt D es es.length = es.foldl (rst D) (-1) := by rw [rlt, List.take_length]
  have hup : es.foldl (rst D) (-1) ≤ 1000 := by
    rcases rfold_got D es (-1) with q | ⟨e, -, q⟩
    · rw [q]; omega
    · rw [← q]; exact (hb _).2
  rw [dstE, rwt, e1, e2, h.1]
  by_cases q : es.foldl (rst D) (-1) = -1
  · rw [if_pos q, if_neg (by omega)]
  · rw [if_neg q, if_pos (by omega), IntWalk.wrap64_in _ (by omega)]
theorem sumK_le (D : List Int) (N : Nat) : ∀ k, sumK D k N ≤ k := by
  intro k
  induction k with
  | zero => rw [sumK_zero]; exact Nat.le_refl _
  | succ k ih => rw [sumK_succ]; split <;> omega
theorem sumC_ge {D : List Int} : ∀ N, (∀ v, v < N → 1 ≤ cntD D v D.length) → N ≤ sumC D N := by
  intro N
  induction N with
  | zero => intro _; exact Nat.zero_le _
  | succ N ih =>
    intro h
    have h1 := ih (fun v hv => h v (by omega))
    have h2 := h N (by omega)
    rw [sumC]; omega
/-- what fits by the document is bounded -/
theorem fits_bnd {G : List (List Ed)} {D : List Int} (hl : D.length = G.length) (hn : G.length ≤ 300) (hwf : ∀ k, -9223372036854775808 ≤ nth D k ∧ nth D k ≤ 9223372036854775807)
    (hto : ∀ p (h : p < G.length), ∀ e ∈ G[p], 0 ≤ e.to ∧ e.to < G.length) (hf : ∀ p, p < G.length → nth D p = 0 ∨ nth D p = rwt D (gAt G p)) : ∀ k, -1 ≤ nth D k ∧ nth D k ≤ G.length - 1 ∨ nth D k = 0 := by
  have hstep : ∀ p, p < G.length → 0 < nth D p → ∃ q, q < G.length ∧ nth D q = nth D p - 1 := fun p hp h0 => by
    have h1 : nth D p = rwt D (gAt G p) := by have := hf p hp; omega
    have e2 : rlt D (gAt G p) (gAt G p).length = (gAt G p).foldl (rst D) (-1) := by rw [rlt, List.take_length]
    rw [rwt, e2] at h1
    split at h1
    · rename_i h2
      rcases rfold_got D (gAt G p) (-1) with q | ⟨e, he, q⟩
      · omega
      · rw [gAt_eq hp] at he
        have ht := hto p hp e he
        have hw := hwf e.to.toNat
        rw [q] at hw
        refine ⟨e.to.toNat, by omega, ?_⟩
        by_cases hb : (gAt G p).foldl (rst D) (-1) = 9223372036854775807
        · rw [hb] at h1
          rw [h1] at h0
          exact absurd h0 (by unfold wrap64; decide)
        · rw [IntWalk.wrap64_in _ (by omega)] at h1
          rw [q]; omega
    · omega
  have hup : ∀ p, p < G.length → nth D p ≤ G.length - 1 := fun p hp => by
    by_cases h0 : 0 < nth D p
    · obtain ⟨v, hv⟩ : ∃ v : Nat, nth D p = v := ⟨(nth D p).toNat, by omega⟩
      have hall : ∀ i, i ≤ v → ∃ q, q < G.length ∧ nth D q = ((v - i : Nat) : Int) := by
        intro i
        induction i with
        | zero => intro _; exact ⟨p, hp, by rw [hv]; simp⟩
        | succ i ih =>
          intro hi
          obtain ⟨q, hq, h⟩ := ih (by omega)
          obtain ⟨q2, hq2, h2⟩ := hstep q hq (by omega)
          exact ⟨q2, hq2, by rw [h2, h]; omega⟩
      have hc := sumC_ge (D := D) (v + 1) (fun u hu => by
        obtain ⟨q, hq, h⟩ := hall (v - u) (by omega)
        exact cntD_pos _ (by rw [hl]; exact hq) (by rw [h]; omega))
      rw [← sumK_len] at hc
      have := sumK_le D (v + 1) D.length
      rw [hl] at this hc
      omega
    · omega
  intro k
  by_cases hk : k < G.length
  · left
    refine ⟨?_, hup k hk⟩
    rcases hf k hk with h | h
    · omega
    · rw [h, rwt]
      have e2 : rlt D (gAt G k) (gAt G k).length = (gAt G k).foldl (rst D) (-1) := by rw [rlt, List.take_length]
      rw [e2]
      split
      · rename_i h2
        rcases rfold_got D (gAt G k) (-1) with q | ⟨e, he, q⟩
        · omega
        · rw [gAt_eq hk] at he
          have ht := hto k hk e he
          have := hup e.to.toNat (by omega)
          rw [IntWalk.wrap64_in _ (by omega)]; omega
      · exact Int.le_refl _
  · right
    simp [nth, List.getElem?_eq_none (by omega : D.length ≤ k)]
theorem chk_eq {nP : Nat} {G : List (List Ed)} {D : List Int} (hwf : ∀ k, -9223372036854775808 ≤ nth D k ∧ nth D k ≤ 9223372036854775807) : chkR nP G D = chkE nP G D := by
  by_cases hr : (rhB nP G D && (List.range nP).all (okR nP G D)) = true
  · have hm : mapB nP G D = true := by
      rw [Bool.and_eq_true, rhB] at hr
      simp only [Bool.and_eq_true, decide_eq_true_eq] at hr
      obtain ⟨⟨⟨h1, rfl⟩, h3⟩, h4⟩ := hr
      rw [List.all_eq_true] at h4
      have hn : 1 ≤ (G.length : Int) ∧ (G.length : Int) ≤ 300 := by simpa [wi] using h1
      have hok : ∀ p, p < G.length → (gAt G p).length ≤ 100 ∧ (∀ e ∈ gAt G p, 0 ≤ e.to ∧ e.to < G.length) ∧ (nth D p = 0 ∨ nth D p = rwt D (gAt G p)) := fun p hp => by
        have := h4 p (List.mem_range.2 hp)
        simp only [okR, Bool.and_eq_true, decide_eq_true_eq, List.all_eq_true, Bool.or_eq_true, beq_iff_eq] at this
        refine ⟨this.1.1, fun e he => ?_, this.2⟩
        have h := this.1.2 e he
        simp [inE, wi] at h
        omega
      have hbn := fits_bnd h3 (by omega) hwf (fun p hp e he => (hok p hp).2.1 e (by rw [gAt_eq hp]; exact he)) (fun p hp => (hok p hp).2.2)
      have hbd : ∀ k, -1 ≤ nth D k ∧ nth D k ≤ 1000 := fun k => by have := hbn k; omega
      rw [mapB, Bool.and_eq_true]
      constructor
      · rw [whB, h1, decide_eq_true rfl, decide_eq_true h3]
        simp only [Bool.true_and, Bool.not_eq_true', List.any_eq_false]
        intro es hes
        obtain ⟨p, hp, rfl⟩ := List.mem_iff_getElem.1 hes
        have h := hok p hp
        rw [gAt_eq hp] at h
        simp only [badE, farE, Bool.or_eq_true, decide_eq_true_eq, List.any_eq_true, not_or, not_exists, not_and]
        refine ⟨by omega, fun e he => ?_⟩
        have := h.2.1 e he
        simp [wi]; omega
      · rw [okB, Bool.and_eq_true]
        constructor
        · rw [inB, List.all_eq_true]
          intro x hx
          obtain ⟨j, hj, rfl⟩ := List.mem_iff_getElem.1 hx
          have := hbn j
          rw [nth_lt hj] at this
          simp [wi]; omega
        · rw [List.all_eq_true]
          intro p hp
          have hp' : p < G.length := by rw [← h3]; exact List.mem_range.1 hp
          have h := (hok p hp').2.2
          rw [okP, want_same hbd]
          simpa using h
    rw [chkR, hr, chkE, hm]
    try rfl
  · have hm : mapB nP G D = false := by
      cases hq : mapB nP G D with
      | false => rfl
      | true =>
        exfalso
        apply hr
        have hbd : ∀ k, -1 ≤ nth D k ∧ nth D k ≤ 1000 := mapB_bnd hq
        have hq0 := hq
        obtain ⟨rfl, hv, ho⟩ := mapB_vld hq
        rw [mapB, Bool.and_eq_true] at hq0
        have hw := hq0.1
        simp only [whB, Bool.and_eq_true, decide_eq_true_eq] at hw
        rw [Bool.and_eq_true]
        constructor
        · rw [rhB, hw.1.1.1, decide_eq_true rfl, decide_eq_true hv.len]; rfl
        · rw [List.all_eq_true]
          intro p hp
          have hp' := List.mem_range.1 hp
          rw [okB, Bool.and_eq_true, List.all_eq_true] at ho
          have h := ho.2 p (List.mem_range.2 (by rw [hv.len]; exact hp'))
          rw [okP, want_same hbd] at h
          simp only [okR, Bool.and_eq_true, decide_eq_true_eq, List.all_eq_true]
          refine ⟨⟨by rw [gAt_eq hp']; exact hv.few p hp', fun e he => ?_⟩, h⟩
          rw [gAt_eq hp'] at he
          have := hv.to p hp' e he
          simp [inE, wi]; omega
    rw [chkR, if_neg hr, chkE, hm]
    try rfl
end Go.Proofs.Ytehoaenkkmmobaa
