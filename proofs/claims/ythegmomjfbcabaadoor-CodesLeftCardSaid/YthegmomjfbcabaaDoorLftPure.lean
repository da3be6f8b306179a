/-
  PURE FACTS for the law CodesLeft.
-/
import Derived.Test.YthegmomjfbcabaaDoorNext
namespace Go.Proofs.YthegmomjfbcabaaDoor
open Go.RowKit
theorem befB_irrefl (x : List Int) : befB x x = false := by
  cases h : befB x x
  · rfl
  · have := befB_asymm h
    rw [h] at this
    exact this
theorem all_of_filter {α : Type} {p : α → Bool} : ∀ {xs : List α}, (xs.filter p).length = xs.length → ∀ x, x ∈ xs → p x = true
  | [], _, x, h => by cases h
  | a :: bs, h, x, hx => by
    rw [List.filter_cons] at h
    by_cases e : p a = true
    · rw [if_pos e] at h
      rcases List.mem_cons.1 hx with rfl | hx
      · exact e
      · exact all_of_filter (by simpa using h) x hx
    · rw [if_neg e] at h
      have := List.length_filter_le p bs
      simp at h
      omega
/-- a code with the answer of the guess itself is the guess -/
theorem an_full {W : Nat} (hW4 : W ≤ 4) {g x : List Int} (hg : Sym g W) (hx : Sym x W) (lg : g.length = W) (lx : x.length = W) (h : anN W g x = anN W g g) : x = g := by
  obtain ⟨r, m, e1, e2, h1, e3⟩ := an_parts hW4 (g := g) hx
  obtain ⟨r', m', e1', e2', h1', e3'⟩ := an_parts hW4 (g := g) hg
  have hr : r = r' := by rw [e3, e3'] at h; omega
  have hf : rgt g g W = W := (rgt_full g g W).2 (fun _ _ => rfl)
  have hxg := (rgt_full x g W).1 (by rw [e1, hr, ← e1', hf])
  refine List.ext_getElem (by omega) fun i h1 h2 => ?_
  have := hxg i (by omega)
  rwa [nth_lt (by omega), nth_lt (by omega)] at this
theorem rd_facts {W S : Nat} (hS : 2 ≤ S) (hS10 : S ≤ 10) {cs : List Cl} {x : List Int} (h : x ∈ readings W S cs) : x.length = W ∧ Sym x W ∧ codeB W S x = true := by
  have := rd_mem hS hS10 h
  exact ⟨this.1, this.2.1, codeB_of this.1 hS hS10 this.2.2.1⟩
theorem cnt_pos {f : List Int → Nat} {xs : List (List Int)} {x : List Int} (h : x ∈ xs) : 1 ≤ cntF f (f x) xs :=
  List.length_pos_of_mem (List.mem_filter.2 ⟨h, by simp⟩)
/-- the worst that can be left is one at least, and fewer than all where there are two -/
theorem left_worst {W S : Nat} (hW4 : W ≤ 4) (hS : 2 ≤ S) (hS10 : S ≤ 10) {cs : List Cl} {g : List Int} (hg : g ∈ readings W S cs) :
    1 ≤ mst (anN W g) (readings W S cs) ∧ (1 < (readings W S cs).length → mst (anN W g) (readings W S cs) < (readings W S cs).length) := by
  obtain ⟨h1, h2⟩ := isMost_mst (anN W g) (readings W S cs)
  refine ⟨Nat.le_trans (cnt_pos hg) (h1 _), fun h => ?_⟩
  rcases h2 with h0 | ⟨c, hc, e⟩
  · omega
  · rcases Nat.lt_or_ge (mst (anN W g) (readings W S cs)) (readings W S cs).length with h3 | h3
    · exact h3
    · exfalso
      have hle := cntF_le (anN W g) (anN W g c) (readings W S cs)
      have hall := all_of_filter (p := fun x => anN W g x == anN W g c) (xs := readings W S cs) (by show cntF _ _ _ = _; omega)
      have hq : ∀ x, x ∈ readings W S cs → x = g := fun x hx => by
        have a1 : anN W g x = anN W g c := by simpa using hall x hx
        have a2 : anN W g g = anN W g c := by simpa using hall g hg
        obtain ⟨l1, s1, _⟩ := rd_facts hS hS10 hx
        obtain ⟨l2, s2, _⟩ := rd_facts hS hS10 hg
        exact an_full hW4 s2 s1 l2 l1 (a1.trans a2.symm)
      have hb := rd_sorted (W := W) (S := S) (cs := cs) (i := 0) (j := 1) (by omega) h
      rw [hq _ (List.getElem_mem (show 0 < _ by omega)), hq _ (List.getElem_mem h), befB_irrefl] at hb
      cases hb
/-- the clue that an answer is -/
def rightC (W : Nat) (g y : List Int) : Cl := ⟨6, 0, 0, rgt y g W, com y g W 10 - rgt y g W, g, false⟩
theorem hold_right {W : Nat} (hW4 : W ≤ 4) {g y x : List Int} (hy : Sym y W) (hx : Sym x W) : holdB W (rightC W g y) x = (anN W g x == anN W g y) := by
  have := an_same hW4 (g := g) hy hx
  simp only [holdB, sayB, rightC]
  have e : (anN W g x == anN W g y) = decide (anN W g x = anN W g y) := by by_cases h : anN W g x = anN W g y <;> simp [h]
  rw [e, ← this]
  simp only [beq_dec]
  simp
theorem rd_right {W S : Nat} (hW4 : W ≤ 4) (hS : 2 ≤ S) (hS10 : S ≤ 10) {cs : List Cl} {g y : List Int} (hy : Sym y W) : (readings W S (cs ++ [rightC W g y])).length = cntF (anN W g) (anN W g y) (readings W S cs) := by
  have h1 : readings W S (cs ++ [rightC W g y]) = (readings W S cs).filter (holdB W (rightC W g y)) := by
    rw [readings, readings, List.filter_filter]
    exact List.filter_congr (fun x _ => by rw [good_snoc, Bool.and_comm])
  rw [h1, cntF]
  congr 1
  refine List.filter_congr (fun x hx => ?_)
  exact hold_right hW4 hy (rd_facts hS hS10 hx).2.1
theorem clue_right {W S : Nat} {g y : List Int} (hg : codeB W S g = true) (hy : Sym y W) : clueB W S (rightC W g y) = true := by
  have h1 := rgt_le_com y g W hy
  have h2 := com_le y g W hy
  have h3 := rgt_pos y g W
  have a1 : wi (rgt y g W) 0 W = true := by rw [wi_iff]; omega
  have a2 : wi (com y g W 10 - rgt y g W) 0 W = true := by rw [wi_iff]; omega
  simp only [clueB, rangeB, spareB, rightC, hg, a1, a2]
  rfl
theorem ans_right {W S : Nat} {g y : List Int} (hL : lockOk W S = true) (hg : codeB W S g = true) (hy : codeB W S y = true) (ly : y.length = W) :
    ansE W S y g = 0 ∧ ansR W S y g = rgt y g W ∧ ansC W S y g = com y g W 10 - rgt y g W := by
  have h0 : ansE W S y g = 0 := by
    rw [ansE, fst2_zero]
    exact ⟨lockErr_zero.2 hL, codesErr_zero.2 (by simp [hg, hy])⟩
  exact ⟨h0, by rw [ansR, if_pos h0, ly], by rw [ansC, if_pos h0, ly]⟩
/-- behind the answer to the guess: how many are left -/
theorem left_end {W S : Int} {cs : List Cl} (hE : cntE W S cs = 0) (hl : cs.length < 20) {g y : List Int} (hg : g ∈ readings W.toNat S.toNat cs) (hy : y ∈ readings W.toNat S.toNat cs) :
    cntE W S (cs ++ [⟨6, 0, 0, ansR W S y g, ansC W S y g, g, false⟩]) = 0 ∧ ansE W S y g = 0 ∧ ∃ k : Nat, cntN W S (cs ++ [⟨6, 0, 0, ansR W S y g, ansC W S y g, g, false⟩]) = k ∧ 1 ≤ k ∧ k ≤ mst (anN W.toNat g) (readings W.toNat S.toNat cs) := by
  obtain ⟨W', S', rfl, rfl, hW1, hW4, hS, hS10, hC⟩ := cntE_nat hE
  simp only [Int.toNat_natCast] at hg hy ⊢
  obtain ⟨lg, sg, cg⟩ := rd_facts hS hS10 hg
  obtain ⟨ly, sy, cy⟩ := rd_facts hS hS10 hy
  have hL : lockOk W' S' = true := (cntE_facts hE).1
  obtain ⟨a0, a1, a2⟩ := ans_right (g := g) (y := y) hL cg cy ly
  have e : (⟨6, 0, 0, ansR W' S' y g, ansC W' S' y g, g, false⟩ : Cl) = rightC W' g y := by rw [a1, a2]; rfl
  rw [e]
  have h1 := ex_err hE (clue_right cg sy) hl
  refine ⟨h1, a0, _, if_pos h1, ?_, ?_⟩
  · simp only [Int.toNat_natCast]
    rw [rd_right hW4 hS hS10 sy]
    exact cnt_pos hy
  · simp only [Int.toNat_natCast]
    rw [rd_right hW4 hS hS10 sy]
    exact (isMost_mst _ _).1 _
theorem left_next {W S : Int} {cs : List Cl} (hE : cntE W S cs = 0) :
    ((readings W.toNat S.toNat cs).length = 0 → nxE W S cs = 3 ∧ nxG W S cs = [] ∧ nxN W S cs = 0) ∧
    (0 < (readings W.toNat S.toNat cs).length → (readings W.toNat S.toNat cs).length ≤ 200 → nxE W S cs = 0 ∧ nxG W S cs ∈ readings W.toNat S.toNat cs ∧
      ∃ m : Nat, nxN W S cs = m ∧ m = mst (anN W.toNat (nxG W S cs)) (readings W.toNat S.toNat cs) ∧ 1 ≤ m ∧ (1 < (readings W.toNat S.toNat cs).length → m < (readings W.toNat S.toNat cs).length)) := by
  obtain ⟨W', S', rfl, rfl, hW1, hW4, hS, hS10, hC⟩ := cntE_nat hE
  simp only [Int.toNat_natCast]
  refine ⟨fun h => nx_zero hE h, fun h0 h => ?_⟩
  obtain ⟨e1, e2, e3⟩ := nx_some hE h0 h
  have hlt : bst (lft W' (readings W' S' cs)) ((readings W' S' cs).length - 1) < (readings W' S' cs).length := by
    have := bst_le (lft W' (readings W' S' cs)) ((readings W' S' cs).length - 1)
    omega
  have hm : nxG W' S' cs ∈ readings W' S' cs := by
    rw [e2, getD_at hlt]
    exact List.getElem_mem hlt
  obtain ⟨a, b⟩ := left_worst hW4 hS hS10 hm
  exact ⟨e1, hm, _, by rw [e3, lft, ← e2], rfl, a, b⟩
end Go.Proofs.YthegmomjfbcabaaDoor
