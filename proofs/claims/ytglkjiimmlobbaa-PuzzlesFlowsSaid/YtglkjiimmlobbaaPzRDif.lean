/-
  CONTRACTS of the document's own answers: padlockref03.differences.
-/
import Derived.Test.YtglkjiimmlobbaaPzREq
namespace Go.Proofs.Ytglkjiimmlobbaa
open Go.RowKit Go.Shelf
theorem set_keep {L : Array Bool} {i j : Nat} (h : L.getD i false = true) : (L.setIfInBounds j true).getD i false = true := by
  by_cases e : j = i
  · subst e
    refine set_same ?_
    rcases Nat.lt_or_ge j L.size with h1 | h1
    · exact h1
    · simp [Array.getElem?_eq_none h1] at h
  · exact (set_other e).trans h
theorem wpOp_mem {P : Program} {ops : Array Oper} {Q : Exit → Act → World → Prop} {i : Nat} {o : Oper} {K : Act → World → Prop} {a : Act} {w : World} (v : Value) (w2 : World) (ho : ops[i]? = some o) (hw : Region.wanted o (yielded ops a.tmps) = true) (hv : (execOp a.eval o).run P w = .ok (.value v) w2)
    (h : K (a.put o.dst v) w2) : wpOp P ops Q i K a w := by
  unfold wpOp
  simp only [ho]
  rw [if_pos hw]
  unfold Oper.wp
  rw [hv, Oper.upon_value]
  exact .inl h
theorem take_snoc (l : List Int) (m k : Nat) (hdl : (diffs l).length = m) (hk : k < m) (hl : l.length = m + 1) : ((diffs l).take k).map I ++ [I (nth l (k + 1) - nth l k)] = ((diffs l).take (k + 1)).map I := by
  rw [List.take_succ_eq_append_getElem (by omega), diffs_at l k (by omega), nth_lt (by omega), nth_lt (by omega)]
  simp

set_option maxRecDepth 100000 in
set_option maxHeartbeats 2000000 in
theorem rdifferences_any (A : Option Addr) (c : Nat) (l : List Int) (b : Nat) (w : World) (hx : IntsR w w.heap.size A l) (h1 : 1 ≤ l.length) (hl : l.length ≤ 64) (hb : b ≤ 1000000000000000) (hB : Bnd b l) :
    Calls Try.prog 82 #[.slice A l.length c] w fun e w' => ∃ A' c', e = .returned (.slice A' (diffs l).length c') ∧ IntsR w' w'.heap.size A' (diffs l) ∧ Below w.heap.size w w' := by
  obtain ⟨m, hm⟩ : ∃ m, l.length = m + 1 := ⟨l.length - 1, by omega⟩
  have hdl : (diffs l).length = m := by rw [diffs_length, hm]; rfl
  rw [hdl, hm]
  have HX := Lib.hid hx
  have HM := Lib.hid hm
  clear hx
  go_enter Try.func82, Try.ntmps82
  go_wp2_with fail
  go_loopw [3, 4] (fun v i wr => ∃ k : Nat, k ≤ m ∧ i = .int .i64 ((k : Int) + 1) ∧ wr.ownsRow w.heap.size 3 1 v k (((diffs l).take k).map I) ∧ Below w.heap.size w wr) (fun _ i _ => m + 1 - (intOf i).toNat)
  case atStart => exact ⟨0, Nat.zero_le _, by simp, World.ownsRow_nil _ _ _ _, Below.refl _ _⟩
  case round =>
    obtain ⟨k, hk, rfl, hown, hBl⟩ := hrel
    obtain ⟨v, hv⟩ : ∃ v : Value, v = u3 := ⟨_, rfl⟩
    subst hv
    by_cases hlt : k < m
    · have hx' := HX.out.below hBl (Nat.le_refl _)
      obtain ⟨ad, rfl, hbl, hc1⟩ := hx'.at_ (k := k) (by omega)
      obtain ⟨ad', hA, hbl', hc2⟩ := hx'.at_ (k := k + 1) (by omega)
      injection hA with hA
      subst hA
      have hbk := hB k (by omega)
      have hbk1 := hB (k + 1) (by omega)
      have q1 := hbk.1
      have q2 := hbk.2
      have q3 := hbk1.1
      have q4 := hbk1.2
      have hsz := hBl.size
      have HT := Lib.hid (take_snoc l m k hdl hlt HM.out)
      clear hbk hbk1 hx' hbl'
      generalize hn : nth l k = x at *
      generalize hn1 : nth l (k + 1) = y at *
      clear hn hn1
      have ey : IntKind.i64.wrap (y - x) = y - x := (IntWalk.i64_left _).trans (IntWalk.wrap64_in _ ⟨by omega, by omega⟩)
      have ek2 : IntKind.i64.wrap ((k : Int) + 1 - 1) = (k : Int) := by rw [show (k : Int) + 1 - 1 = (k : Int) by omega]; exact (IntWalk.i64_left _).trans (IntWalk.wrap64_in _ ⟨by omega, by omega⟩)
      have ead : ad.add (k + 1) = ⟨ad.block, ad.off + (k + 1), none⟩ := by simp [Addr.add]
      rw [ead] at hc2
      obtain ⟨i0, hi0, hz0, hz1, hz2⟩ := info_parts info_int
      have hcg : ∀ w4 : World, (wr.drew.alloc (.cells #[I (y - x)] 3)).grownBy w4 v.ownBlock → ∀ p : Addr, p.block < w.heap.size → w4.cell? p = wr.cell? p := by
        intro w4 hg p hp
        refine (World.cell?_of_block (w := wr.drew.alloc (.cells #[I (y - x)] 3)) (hg.block p.block (by simp; omega) (fun e => ?_))).trans (World.cell?_alloc_lt _ _ _ (by show p.block < wr.heap.size; omega))
        have := (hown.lt _ e.symm).1
        omega
      have hB4 : ∀ w4 : World, (wr.drew.alloc (.cells #[I (y - x)] 3)).grownBy w4 v.ownBlock → Below w.heap.size w w4 := by
        intro w4 hg
        exact (((hBl.trans (Below.refl _ _).drew)).alloc hsz _).grown hg (by simp; omega) (fun j hj => (hown.lt j hj).1)
      have ek9 : IntKind.i64.wrap (k : Int) = (k : Int) := (IntWalk.i64_left _).trans (IntWalk.wrap64_in _ ⟨by omega, by omega⟩)
      have hm64 : m ≤ 63 := by omega
      go_wp2_with fail
      clear hb q1 q2 q3 q4 h1 hl
      refine wp_region_inv (by kernel_rfl) (fun L a w' => L.size = 14 ∧ ∃ s3 v11 v12 v13 v14 v15 v16 v17 v18 v19 v20 v21 v22 v23 : Value, a = { tmps := #[.slice (some ad) (m + 1) c, undef, .slice none 0 0, s3, .int .i64 ((k : Int) + 1), .int .i64 ((k : Int) + 1), .slice (some ad) (m + 1) c, .int .i64 ((m : Int) + 1), .bool true, u9, u10, v11, v12, v13, v14, v15, v16, v17, v18, v19, v20, v21, v22, v23, undef], defers := [] } ∧ (∀ p : Addr, p.block < w.heap.size → w'.cell? p = wr.cell? p) ∧ (L.getD 13 false = true → L.getD 0 false = true ∧ L.getD 12 false = true) ∧ (L.getD 12 false = true → L.getD 11 false = true) ∧ (L.getD 11 false = false → w' = wr.drew) ∧ (L.getD 11 false = true → L.getD 12 false = false → w' = (wr.drew.alloc (.cells #[I (y - x)] 3))) ∧ (L.getD 12 false = true → w'.ownsRow w.heap.size 3 1 v23 (k + 1) (((diffs l).take k).map I ++ [I (y - x)]) ∧ (wr.drew.alloc (.cells #[I (y - x)] 3)).grownBy w' v.ownBlock) ∧ (L.getD 13 false = false → v = s3) ∧ (L.getD 13 false = true → v23 = s3) ∧ (L.getD 0 false = true → v = v11) ∧ (L.getD 1 false = true → v12 = .slice (some ad) (m + 1) c) ∧ (L.getD 2 false = true → v13 = .int .i64 ((k : Int) + 1)) ∧ (L.getD 3 false = true → v14 = .pointer (some ⟨ad.block, ad.off + (k + 1), none⟩)) ∧ (L.getD 4 false = true → v15 = .int .i64 y) ∧ (L.getD 5 false = true → v16 = .slice (some ad) (m + 1) c) ∧ (L.getD 6 false = true → v17 = .int .i64 ((k : Int) + 1)) ∧ (L.getD 7 false = true → v18 = .int .i64 (k : Int)) ∧ (L.getD 8 false = true → v19 = .pointer (some (ad.add k))) ∧ (L.getD 9 false = true → v20 = .int .i64 x) ∧ (L.getD 10 false = true → v21 = .int .i64 (y - x)) ∧ (L.getD 11 false = true → v22 = .slice (some ⟨wr.heap.size, 0, none⟩) 1 1)) ?_ ?_ ?_
      · exact ⟨by simp, _, _, _, _, _, _, _, _, _, _, _, _, _, _, rfl, fun p _ => rfl, by simp, by simp, fun _ => rfl, by simp, by simp, fun _ => rfl, by simp, by simp, by simp, by simp, by simp, by simp, by simp, by simp, by simp, by simp, by simp, by simp, by simp⟩
      · rintro i L a w' ⟨hL, s3, v11, v12, v13, v14, v15, v16, v17, v18, v19, v20, v21, v22, v23, rfl, hce, hD, hE, hw0, hw1, hw2, hs0, hs1, h0, h1, h2, h3, h4, h5, h6, h7, h8, h9, h10, h11⟩ hi
        have hcases : i = 0 ∨ i = 1 ∨ i = 2 ∨ i = 3 ∨ i = 4 ∨ i = 5 ∨ i = 6 ∨ i = 7 ∨ i = 8 ∨ i = 9 ∨ i = 10 ∨ i = 11 ∨ i = 12 ∨ i = 13 := by
          have : i < 14 := ready_lt hi
          omega
        have d1 := (hce (ad.add k) (by rw [block_of_add]; exact hbl)).trans hc1
        have d2 := (hce ⟨ad.block, ad.off + (k + 1), none⟩ hbl).trans hc2
        rcases hcases with rfl | rfl | rfl | rfl | rfl | rfl | rfl | rfl | rfl | rfl | rfl | rfl | rfl | rfl
        · have hq0 := ready_not' hi (by omega)
          have hq13 : L.getD 13 false = false := by
            cases hq : L.getD 13 false
            · rfl
            · exact absurd ((hD hq).1.symm.trans hq0) (by decide)
          obtain rfl := hs0 hq13
          refine wpOp_val (v) rfl (by rfl) (by go_simp) ?_
          exact ⟨by simpa using hL, _, _, _, _, _, _, _, _, _, _, _, _, _, _, rfl, hce, fun h => ⟨set_keep (hD ((set_other (by decide)).symm.trans h)).1, set_keep (hD ((set_other (by decide)).symm.trans h)).2⟩, fun h => set_keep (hE ((set_other (by decide)).symm.trans h)), fun h => hw0 ((set_other (by decide)).symm.trans h), fun h h' => hw1 ((set_other (by decide)).symm.trans h) ((set_other (by decide)).symm.trans h'), fun h => hw2 ((set_other (by decide)).symm.trans h), fun h => hs0 ((set_other (by decide)).symm.trans h), fun h => hs1 ((set_other (by decide)).symm.trans h), fun _ => rfl, (fun h => h1 ((set_other (by decide)).symm.trans h)), (fun h => h2 ((set_other (by decide)).symm.trans h)), (fun h => h3 ((set_other (by decide)).symm.trans h)), (fun h => h4 ((set_other (by decide)).symm.trans h)), (fun h => h5 ((set_other (by decide)).symm.trans h)), (fun h => h6 ((set_other (by decide)).symm.trans h)), (fun h => h7 ((set_other (by decide)).symm.trans h)), (fun h => h8 ((set_other (by decide)).symm.trans h)), (fun h => h9 ((set_other (by decide)).symm.trans h)), (fun h => h10 ((set_other (by decide)).symm.trans h)), (fun h => h11 ((set_other (by decide)).symm.trans h))⟩
        · refine wpOp_val (.slice (some ad) (m + 1) c) rfl (by rfl) (by go_simp) ?_
          exact ⟨by simpa using hL, _, _, _, _, _, _, _, _, _, _, _, _, _, _, rfl, hce, fun h => ⟨set_keep (hD ((set_other (by decide)).symm.trans h)).1, set_keep (hD ((set_other (by decide)).symm.trans h)).2⟩, fun h => set_keep (hE ((set_other (by decide)).symm.trans h)), fun h => hw0 ((set_other (by decide)).symm.trans h), fun h h' => hw1 ((set_other (by decide)).symm.trans h) ((set_other (by decide)).symm.trans h'), fun h => hw2 ((set_other (by decide)).symm.trans h), fun h => hs0 ((set_other (by decide)).symm.trans h), fun h => hs1 ((set_other (by decide)).symm.trans h), (fun h => h0 ((set_other (by decide)).symm.trans h)), fun _ => rfl, (fun h => h2 ((set_other (by decide)).symm.trans h)), (fun h => h3 ((set_other (by decide)).symm.trans h)), (fun h => h4 ((set_other (by decide)).symm.trans h)), (fun h => h5 ((set_other (by decide)).symm.trans h)), (fun h => h6 ((set_other (by decide)).symm.trans h)), (fun h => h7 ((set_other (by decide)).symm.trans h)), (fun h => h8 ((set_other (by decide)).symm.trans h)), (fun h => h9 ((set_other (by decide)).symm.trans h)), (fun h => h10 ((set_other (by decide)).symm.trans h)), (fun h => h11 ((set_other (by decide)).symm.trans h))⟩
        · refine wpOp_val (.int .i64 ((k : Int) + 1)) rfl (by rfl) (by go_simp) ?_
          exact ⟨by simpa using hL, _, _, _, _, _, _, _, _, _, _, _, _, _, _, rfl, hce, fun h => ⟨set_keep (hD ((set_other (by decide)).symm.trans h)).1, set_keep (hD ((set_other (by decide)).symm.trans h)).2⟩, fun h => set_keep (hE ((set_other (by decide)).symm.trans h)), fun h => hw0 ((set_other (by decide)).symm.trans h), fun h h' => hw1 ((set_other (by decide)).symm.trans h) ((set_other (by decide)).symm.trans h'), fun h => hw2 ((set_other (by decide)).symm.trans h), fun h => hs0 ((set_other (by decide)).symm.trans h), fun h => hs1 ((set_other (by decide)).symm.trans h), (fun h => h0 ((set_other (by decide)).symm.trans h)), (fun h => h1 ((set_other (by decide)).symm.trans h)), fun _ => rfl, (fun h => h3 ((set_other (by decide)).symm.trans h)), (fun h => h4 ((set_other (by decide)).symm.trans h)), (fun h => h5 ((set_other (by decide)).symm.trans h)), (fun h => h6 ((set_other (by decide)).symm.trans h)), (fun h => h7 ((set_other (by decide)).symm.trans h)), (fun h => h8 ((set_other (by decide)).symm.trans h)), (fun h => h9 ((set_other (by decide)).symm.trans h)), (fun h => h10 ((set_other (by decide)).symm.trans h)), (fun h => h11 ((set_other (by decide)).symm.trans h))⟩
        · obtain rfl := h1 (ready_dep hi 1 (by kernel_rfl))
          obtain rfl := h2 (ready_dep hi 2 (by kernel_rfl))
          refine wpOp_val (.pointer (some ⟨ad.block, ad.off + (k + 1), none⟩)) rfl (by rfl) (by go_simp; intro h; exfalso; omega) ?_
          exact ⟨by simpa using hL, _, _, _, _, _, _, _, _, _, _, _, _, _, _, rfl, hce, fun h => ⟨set_keep (hD ((set_other (by decide)).symm.trans h)).1, set_keep (hD ((set_other (by decide)).symm.trans h)).2⟩, fun h => set_keep (hE ((set_other (by decide)).symm.trans h)), fun h => hw0 ((set_other (by decide)).symm.trans h), fun h h' => hw1 ((set_other (by decide)).symm.trans h) ((set_other (by decide)).symm.trans h'), fun h => hw2 ((set_other (by decide)).symm.trans h), fun h => hs0 ((set_other (by decide)).symm.trans h), fun h => hs1 ((set_other (by decide)).symm.trans h), (fun h => h0 ((set_other (by decide)).symm.trans h)), (fun h => h1 ((set_other (by decide)).symm.trans h)), (fun h => h2 ((set_other (by decide)).symm.trans h)), fun _ => rfl, (fun h => h4 ((set_other (by decide)).symm.trans h)), (fun h => h5 ((set_other (by decide)).symm.trans h)), (fun h => h6 ((set_other (by decide)).symm.trans h)), (fun h => h7 ((set_other (by decide)).symm.trans h)), (fun h => h8 ((set_other (by decide)).symm.trans h)), (fun h => h9 ((set_other (by decide)).symm.trans h)), (fun h => h10 ((set_other (by decide)).symm.trans h)), (fun h => h11 ((set_other (by decide)).symm.trans h))⟩
        · obtain rfl := h3 (ready_dep hi 3 (by kernel_rfl))
          refine wpOp_val (.int .i64 y) rfl (by rfl) (by go_simp) ?_
          exact ⟨by simpa using hL, _, _, _, _, _, _, _, _, _, _, _, _, _, _, rfl, hce, fun h => ⟨set_keep (hD ((set_other (by decide)).symm.trans h)).1, set_keep (hD ((set_other (by decide)).symm.trans h)).2⟩, fun h => set_keep (hE ((set_other (by decide)).symm.trans h)), fun h => hw0 ((set_other (by decide)).symm.trans h), fun h h' => hw1 ((set_other (by decide)).symm.trans h) ((set_other (by decide)).symm.trans h'), fun h => hw2 ((set_other (by decide)).symm.trans h), fun h => hs0 ((set_other (by decide)).symm.trans h), fun h => hs1 ((set_other (by decide)).symm.trans h), (fun h => h0 ((set_other (by decide)).symm.trans h)), (fun h => h1 ((set_other (by decide)).symm.trans h)), (fun h => h2 ((set_other (by decide)).symm.trans h)), (fun h => h3 ((set_other (by decide)).symm.trans h)), fun _ => rfl, (fun h => h5 ((set_other (by decide)).symm.trans h)), (fun h => h6 ((set_other (by decide)).symm.trans h)), (fun h => h7 ((set_other (by decide)).symm.trans h)), (fun h => h8 ((set_other (by decide)).symm.trans h)), (fun h => h9 ((set_other (by decide)).symm.trans h)), (fun h => h10 ((set_other (by decide)).symm.trans h)), (fun h => h11 ((set_other (by decide)).symm.trans h))⟩
        · refine wpOp_val (.slice (some ad) (m + 1) c) rfl (by rfl) (by go_simp) ?_
          exact ⟨by simpa using hL, _, _, _, _, _, _, _, _, _, _, _, _, _, _, rfl, hce, fun h => ⟨set_keep (hD ((set_other (by decide)).symm.trans h)).1, set_keep (hD ((set_other (by decide)).symm.trans h)).2⟩, fun h => set_keep (hE ((set_other (by decide)).symm.trans h)), fun h => hw0 ((set_other (by decide)).symm.trans h), fun h h' => hw1 ((set_other (by decide)).symm.trans h) ((set_other (by decide)).symm.trans h'), fun h => hw2 ((set_other (by decide)).symm.trans h), fun h => hs0 ((set_other (by decide)).symm.trans h), fun h => hs1 ((set_other (by decide)).symm.trans h), (fun h => h0 ((set_other (by decide)).symm.trans h)), (fun h => h1 ((set_other (by decide)).symm.trans h)), (fun h => h2 ((set_other (by decide)).symm.trans h)), (fun h => h3 ((set_other (by decide)).symm.trans h)), (fun h => h4 ((set_other (by decide)).symm.trans h)), fun _ => rfl, (fun h => h6 ((set_other (by decide)).symm.trans h)), (fun h => h7 ((set_other (by decide)).symm.trans h)), (fun h => h8 ((set_other (by decide)).symm.trans h)), (fun h => h9 ((set_other (by decide)).symm.trans h)), (fun h => h10 ((set_other (by decide)).symm.trans h)), (fun h => h11 ((set_other (by decide)).symm.trans h))⟩
        · refine wpOp_val (.int .i64 ((k : Int) + 1)) rfl (by rfl) (by go_simp) ?_
          exact ⟨by simpa using hL, _, _, _, _, _, _, _, _, _, _, _, _, _, _, rfl, hce, fun h => ⟨set_keep (hD ((set_other (by decide)).symm.trans h)).1, set_keep (hD ((set_other (by decide)).symm.trans h)).2⟩, fun h => set_keep (hE ((set_other (by decide)).symm.trans h)), fun h => hw0 ((set_other (by decide)).symm.trans h), fun h h' => hw1 ((set_other (by decide)).symm.trans h) ((set_other (by decide)).symm.trans h'), fun h => hw2 ((set_other (by decide)).symm.trans h), fun h => hs0 ((set_other (by decide)).symm.trans h), fun h => hs1 ((set_other (by decide)).symm.trans h), (fun h => h0 ((set_other (by decide)).symm.trans h)), (fun h => h1 ((set_other (by decide)).symm.trans h)), (fun h => h2 ((set_other (by decide)).symm.trans h)), (fun h => h3 ((set_other (by decide)).symm.trans h)), (fun h => h4 ((set_other (by decide)).symm.trans h)), (fun h => h5 ((set_other (by decide)).symm.trans h)), fun _ => rfl, (fun h => h7 ((set_other (by decide)).symm.trans h)), (fun h => h8 ((set_other (by decide)).symm.trans h)), (fun h => h9 ((set_other (by decide)).symm.trans h)), (fun h => h10 ((set_other (by decide)).symm.trans h)), (fun h => h11 ((set_other (by decide)).symm.trans h))⟩
        · obtain rfl := h6 (ready_dep hi 6 (by kernel_rfl))
          refine wpOp_val (.int .i64 (k : Int)) rfl (by rfl) (by go_simp) ?_
          exact ⟨by simpa using hL, _, _, _, _, _, _, _, _, _, _, _, _, _, _, rfl, hce, fun h => ⟨set_keep (hD ((set_other (by decide)).symm.trans h)).1, set_keep (hD ((set_other (by decide)).symm.trans h)).2⟩, fun h => set_keep (hE ((set_other (by decide)).symm.trans h)), fun h => hw0 ((set_other (by decide)).symm.trans h), fun h h' => hw1 ((set_other (by decide)).symm.trans h) ((set_other (by decide)).symm.trans h'), fun h => hw2 ((set_other (by decide)).symm.trans h), fun h => hs0 ((set_other (by decide)).symm.trans h), fun h => hs1 ((set_other (by decide)).symm.trans h), (fun h => h0 ((set_other (by decide)).symm.trans h)), (fun h => h1 ((set_other (by decide)).symm.trans h)), (fun h => h2 ((set_other (by decide)).symm.trans h)), (fun h => h3 ((set_other (by decide)).symm.trans h)), (fun h => h4 ((set_other (by decide)).symm.trans h)), (fun h => h5 ((set_other (by decide)).symm.trans h)), (fun h => h6 ((set_other (by decide)).symm.trans h)), fun _ => rfl, (fun h => h8 ((set_other (by decide)).symm.trans h)), (fun h => h9 ((set_other (by decide)).symm.trans h)), (fun h => h10 ((set_other (by decide)).symm.trans h)), (fun h => h11 ((set_other (by decide)).symm.trans h))⟩
        · obtain rfl := h5 (ready_dep hi 5 (by kernel_rfl))
          obtain rfl := h7 (ready_dep hi 7 (by kernel_rfl))
          refine wpOp_val (.pointer (some (ad.add k))) rfl (by rfl) (by go_simp; intro h; exfalso; omega) ?_
          exact ⟨by simpa using hL, _, _, _, _, _, _, _, _, _, _, _, _, _, _, rfl, hce, fun h => ⟨set_keep (hD ((set_other (by decide)).symm.trans h)).1, set_keep (hD ((set_other (by decide)).symm.trans h)).2⟩, fun h => set_keep (hE ((set_other (by decide)).symm.trans h)), fun h => hw0 ((set_other (by decide)).symm.trans h), fun h h' => hw1 ((set_other (by decide)).symm.trans h) ((set_other (by decide)).symm.trans h'), fun h => hw2 ((set_other (by decide)).symm.trans h), fun h => hs0 ((set_other (by decide)).symm.trans h), fun h => hs1 ((set_other (by decide)).symm.trans h), (fun h => h0 ((set_other (by decide)).symm.trans h)), (fun h => h1 ((set_other (by decide)).symm.trans h)), (fun h => h2 ((set_other (by decide)).symm.trans h)), (fun h => h3 ((set_other (by decide)).symm.trans h)), (fun h => h4 ((set_other (by decide)).symm.trans h)), (fun h => h5 ((set_other (by decide)).symm.trans h)), (fun h => h6 ((set_other (by decide)).symm.trans h)), (fun h => h7 ((set_other (by decide)).symm.trans h)), fun _ => rfl, (fun h => h9 ((set_other (by decide)).symm.trans h)), (fun h => h10 ((set_other (by decide)).symm.trans h)), (fun h => h11 ((set_other (by decide)).symm.trans h))⟩
        · obtain rfl := h8 (ready_dep hi 8 (by kernel_rfl))
          refine wpOp_val (.int .i64 x) rfl (by rfl) (by go_simp) ?_
          exact ⟨by simpa using hL, _, _, _, _, _, _, _, _, _, _, _, _, _, _, rfl, hce, fun h => ⟨set_keep (hD ((set_other (by decide)).symm.trans h)).1, set_keep (hD ((set_other (by decide)).symm.trans h)).2⟩, fun h => set_keep (hE ((set_other (by decide)).symm.trans h)), fun h => hw0 ((set_other (by decide)).symm.trans h), fun h h' => hw1 ((set_other (by decide)).symm.trans h) ((set_other (by decide)).symm.trans h'), fun h => hw2 ((set_other (by decide)).symm.trans h), fun h => hs0 ((set_other (by decide)).symm.trans h), fun h => hs1 ((set_other (by decide)).symm.trans h), (fun h => h0 ((set_other (by decide)).symm.trans h)), (fun h => h1 ((set_other (by decide)).symm.trans h)), (fun h => h2 ((set_other (by decide)).symm.trans h)), (fun h => h3 ((set_other (by decide)).symm.trans h)), (fun h => h4 ((set_other (by decide)).symm.trans h)), (fun h => h5 ((set_other (by decide)).symm.trans h)), (fun h => h6 ((set_other (by decide)).symm.trans h)), (fun h => h7 ((set_other (by decide)).symm.trans h)), (fun h => h8 ((set_other (by decide)).symm.trans h)), fun _ => rfl, (fun h => h10 ((set_other (by decide)).symm.trans h)), (fun h => h11 ((set_other (by decide)).symm.trans h))⟩
        · obtain rfl := h4 (ready_dep hi 4 (by kernel_rfl))
          obtain rfl := h9 (ready_dep hi 9 (by kernel_rfl))
          refine wpOp_val (.int .i64 (y - x)) rfl (by rfl) (by go_simp) ?_
          exact ⟨by simpa using hL, _, _, _, _, _, _, _, _, _, _, _, _, _, _, rfl, hce, fun h => ⟨set_keep (hD ((set_other (by decide)).symm.trans h)).1, set_keep (hD ((set_other (by decide)).symm.trans h)).2⟩, fun h => set_keep (hE ((set_other (by decide)).symm.trans h)), fun h => hw0 ((set_other (by decide)).symm.trans h), fun h h' => hw1 ((set_other (by decide)).symm.trans h) ((set_other (by decide)).symm.trans h'), fun h => hw2 ((set_other (by decide)).symm.trans h), fun h => hs0 ((set_other (by decide)).symm.trans h), fun h => hs1 ((set_other (by decide)).symm.trans h), (fun h => h0 ((set_other (by decide)).symm.trans h)), (fun h => h1 ((set_other (by decide)).symm.trans h)), (fun h => h2 ((set_other (by decide)).symm.trans h)), (fun h => h3 ((set_other (by decide)).symm.trans h)), (fun h => h4 ((set_other (by decide)).symm.trans h)), (fun h => h5 ((set_other (by decide)).symm.trans h)), (fun h => h6 ((set_other (by decide)).symm.trans h)), (fun h => h7 ((set_other (by decide)).symm.trans h)), (fun h => h8 ((set_other (by decide)).symm.trans h)), (fun h => h9 ((set_other (by decide)).symm.trans h)), fun _ => rfl, (fun h => h11 ((set_other (by decide)).symm.trans h))⟩
        · obtain rfl := h10 (ready_dep hi 10 (by kernel_rfl))
          have hq11 := ready_not' hi (by omega)
          have hwz := hw0 hq11
          subst hwz
          refine wpOp_mem (.slice (some ⟨wr.heap.size, 0, none⟩) 1 1) (wr.drew.alloc (.cells #[I (y - x)] 3)) rfl (by rfl) (by go_simp) ?_
          exact ⟨by simpa using hL, _, _, _, _, _, _, _, _, _, _, _, _, _, _, rfl, fun p hp => (World.cell?_alloc_lt _ _ _ (by show p.block < wr.heap.size; omega)).trans (hce p hp), fun h => ⟨set_keep (hD ((set_other (by decide)).symm.trans h)).1, set_keep (hD ((set_other (by decide)).symm.trans h)).2⟩, fun h => set_keep (hE ((set_other (by decide)).symm.trans h)), fun h => absurd ((set_same (by omega)).symm.trans h) (by decide), fun _ _ => rfl, fun h => absurd ((hE ((set_other (by decide)).symm.trans h)).symm.trans hq11) (by decide), fun h => hs0 ((set_other (by decide)).symm.trans h), fun h => hs1 ((set_other (by decide)).symm.trans h), (fun h => h0 ((set_other (by decide)).symm.trans h)), (fun h => h1 ((set_other (by decide)).symm.trans h)), (fun h => h2 ((set_other (by decide)).symm.trans h)), (fun h => h3 ((set_other (by decide)).symm.trans h)), (fun h => h4 ((set_other (by decide)).symm.trans h)), (fun h => h5 ((set_other (by decide)).symm.trans h)), (fun h => h6 ((set_other (by decide)).symm.trans h)), (fun h => h7 ((set_other (by decide)).symm.trans h)), (fun h => h8 ((set_other (by decide)).symm.trans h)), (fun h => h9 ((set_other (by decide)).symm.trans h)), (fun h => h10 ((set_other (by decide)).symm.trans h)), fun _ => rfl⟩
        · obtain rfl := h0 (ready_dep hi 0 (by kernel_rfl))
          obtain rfl := h11 (ready_dep hi 11 (by kernel_rfl))
          have hwz := hw1 (ready_dep hi 11 (by kernel_rfl)) (ready_not' hi (by omega))
          subst hwz
          refine wpOp_wp rfl (by rfl) (wp_append_own _ (.tmp 11) (.tmp 22) 29 rfl w.heap.size 3 i0 (.int .i64 0) 1 8 Try.underlying29 hi0 hz0 hz1 hz2 rfl (by decide) v k (((diffs l).take k).map I) rfl (hown.drew.alloc _) ⟨wr.heap.size, 0, none⟩ 1 1 [I (y - x)] rfl rfl ?c1 ?c2 ?c3 ?c4 ?c5 ?_)
          case c1 =>
            intro j u hj
            match j, hj with
            | 0, hj => simp at hj; subst hj; exact alloc_cell wr.drew _ _ 0
          case c2 => intro u hu; simp at hu; subst hu; rfl
          case c3 => unfold maxLen; omega
          case c4 => omega
          case c5 => simp; omega
          have hq11 := ready_dep hi 11 (by kernel_rfl)
          have hq12 := ready_not' hi (by omega)
          intro v' w4 hown' hgrow _
          exact ⟨by simpa using hL, _, _, _, _, _, _, _, _, _, _, _, _, _, _, rfl, fun p hp => (hcg w4 hgrow p hp), fun h => ⟨set_keep (hD ((set_other (by decide)).symm.trans h)).1, set_keep (hD ((set_other (by decide)).symm.trans h)).2⟩, fun _ => set_keep hq11, fun h => absurd (hq11.symm.trans ((set_other (by decide)).symm.trans h)) (by decide), fun _ h => absurd ((set_same (by omega)).symm.trans h) (by decide), fun _ => ⟨hown', hgrow⟩, fun h => hs0 ((set_other (by decide)).symm.trans h), fun h => absurd ((hD ((set_other (by decide)).symm.trans h)).2.symm.trans hq12) (by decide), (fun h => h0 ((set_other (by decide)).symm.trans h)), (fun h => h1 ((set_other (by decide)).symm.trans h)), (fun h => h2 ((set_other (by decide)).symm.trans h)), (fun h => h3 ((set_other (by decide)).symm.trans h)), (fun h => h4 ((set_other (by decide)).symm.trans h)), (fun h => h5 ((set_other (by decide)).symm.trans h)), (fun h => h6 ((set_other (by decide)).symm.trans h)), (fun h => h7 ((set_other (by decide)).symm.trans h)), (fun h => h8 ((set_other (by decide)).symm.trans h)), (fun h => h9 ((set_other (by decide)).symm.trans h)), (fun h => h10 ((set_other (by decide)).symm.trans h)), (fun h => h11 ((set_other (by decide)).symm.trans h))⟩
        · refine wpOp_val v23 rfl (by rfl) (by go_simp) ?_
          exact ⟨by simpa using hL, _, _, _, _, _, _, _, _, _, _, _, _, _, _, rfl, hce, fun _ => ⟨set_keep (ready_dep hi 0 (by kernel_rfl)), set_keep (ready_dep hi 12 (by kernel_rfl))⟩, fun h => set_keep (hE ((set_other (by decide)).symm.trans h)), fun h => hw0 ((set_other (by decide)).symm.trans h), fun h h' => hw1 ((set_other (by decide)).symm.trans h) ((set_other (by decide)).symm.trans h'), fun h => hw2 ((set_other (by decide)).symm.trans h), fun h => absurd ((set_same (by omega)).symm.trans h) (by decide), fun _ => rfl, (fun h => h0 ((set_other (by decide)).symm.trans h)), (fun h => h1 ((set_other (by decide)).symm.trans h)), (fun h => h2 ((set_other (by decide)).symm.trans h)), (fun h => h3 ((set_other (by decide)).symm.trans h)), (fun h => h4 ((set_other (by decide)).symm.trans h)), (fun h => h5 ((set_other (by decide)).symm.trans h)), (fun h => h6 ((set_other (by decide)).symm.trans h)), (fun h => h7 ((set_other (by decide)).symm.trans h)), (fun h => h8 ((set_other (by decide)).symm.trans h)), (fun h => h9 ((set_other (by decide)).symm.trans h)), (fun h => h10 ((set_other (by decide)).symm.trans h)), (fun h => h11 ((set_other (by decide)).symm.trans h))⟩
      · rintro L a w' ⟨hL, s3, v11, v12, v13, v14, v15, v16, v17, v18, v19, v20, v21, v22, v23, rfl, hce, hD, hE, hw0, hw1, hw2, hs0, hs1, h0, h1, h2, h3, h4, h5, h6, h7, h8, h9, h10, h11⟩ hr
        have hall := all_listed hL (by kernel_rfl) hr
        obtain rfl := h0 (hall 0 (by decide))
        obtain rfl := h1 (hall 1 (by decide))
        obtain rfl := h2 (hall 2 (by decide))
        obtain rfl := h3 (hall 3 (by decide))
        obtain rfl := h4 (hall 4 (by decide))
        obtain rfl := h5 (hall 5 (by decide))
        obtain rfl := h6 (hall 6 (by decide))
        obtain rfl := h7 (hall 7 (by decide))
        obtain rfl := h8 (hall 8 (by decide))
        obtain rfl := h9 (hall 9 (by decide))
        obtain rfl := h10 (hall 10 (by decide))
        obtain rfl := h11 (hall 11 (by decide))
        obtain rfl := hs1 (hall 13 (by decide))
        obtain ⟨hown', hgrow⟩ := hw2 (hall 12 (by decide))
        clear hall hr hL hce hD hE hw0 hw1 hw2 hs0 hs1
        try dsimp only
        go_wp2
        go_roundw
        case rel => exact ⟨k + 1, by omega, by go_num, by rw [← HT.out]; exact hown', hB4 _ hgrow⟩
        case measure => simp [intOf]; omega
    · obtain rfl : k = m := by omega
      go_wp2
      go_ret
      rw [← hdl, List.take_length] at hown
      obtain ⟨A', c', e, hi, _⟩ := own_ints hown
      exact ⟨A', c', by rw [hdl] at e; rw [← e]; rfl, hi, hBl⟩
end Go.Proofs.Ytglkjiimmlobbaa
