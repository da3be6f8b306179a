/-
  CONTRACT: bits.Mul64 and bits.Mul at 1 and a small number.
  CONTRACTS of the document's own answers: padlockref03.differences.
  CONTRACT: slices.Repeat of one number.
  CONTRACT: slices.Clone of a list of numbers: the same list in memory of its own.
-/
import Derived.Test.YtfjincdlenneaaaPzA
import Derived.Laws.BitsAllLaws
import Derived.Test.YtfjincdlenneaaaPzB
import Derived.Lib.BufferMore
/-
  CONTRACT: bits.Mul64 and bits.Mul at 1 and a small number.
-/
namespace Go.Proofs.Ytfjincdlenneaaa
open Go.RowKit Go.Shelf
theorem and_low (n : Nat) (h : n ≤ 1000) : Go.bits .and .u64 (n : Int) 4294967295 = (n : Int) := by
  have e := u64_and_nat n 4294967295 (by omega) (by omega)
  rw [show ((4294967295 : Nat) : Int) = 4294967295 from rfl] at e
  rw [e, show (4294967295 : Nat) = 2 ^ 32 - 1 from rfl, Nat.and_two_pow_sub_one_eq_mod, Nat.mod_eq_of_lt (by omega)]

set_option maxHeartbeats 400000 in
theorem mul64_one (n : Nat) (w : World) (hn : n ≤ 1000) :
    Calls Try.prog 173 #[.int .u64 1, .int .u64 (n : Int)] w fun e w' => e = .returned (.tuple #[.int .u64 0, .int .u64 (n : Int)]) ∧ w' = w := by
  have a1 : Go.bits .and .u64 (1 : Int) 4294967295 = 1 := and_low 1 (by omega)
  have a0 : Go.bits .and .u64 (0 : Int) 4294967295 = 0 := and_low 0 (by omega)
  have an := and_low n hn
  have ew : IntKind.u64.wrap (n : Int) = (n : Int) := by simp [IntKind.wrap, IntKind.bits, IntKind.signed]; omega
  have ed : (n : Int) / 4294967296 = 0 := by omega
  go_enter Try.func173, Try.ntmps173
  go_wp2
  go_ret2
  exact ⟨rfl, rfl⟩
theorem mul_one (n : Nat) (w : World) (hn : n ≤ 1000) :
    Calls Try.prog 169 #[.int .u64 1, .int .u64 (n : Int)] w fun e w' => e = .returned (.tuple #[.int .u64 0, .int .u64 (n : Int)]) ∧ w' = w := by
  go_enter Try.func169, Try.ntmps169
  go_wp2_with (go_at_call 173; refine (mul64_one n _ hn).mono ?_; rintro e w' ⟨rfl, rfl⟩)
  go_ret2
  exact ⟨rfl, rfl⟩
end Go.Proofs.Ytfjincdlenneaaa
/-
  CONTRACTS of the document's own answers: padlockref03.differences.
-/
namespace Go.Proofs.Ytfjincdlenneaaa
open Go.RowKit Go.Shelf
theorem set_keep {L : Array Bool} {i j : Nat} (h : L.getD i false = true) : (L.setIfInBounds j true).getD i false = true := by
  by_cases e : j = i
  · subst e
    refine set_same ?_
    rcases Nat.lt_or_ge j L.size with h1 | h1
    · exact h1
    · simp [Array.getElem?_eq_none h1] at h
  · exact (set_other e).trans h
theorem wpOp_mem {P : Program} {ops : Array Oper} {Q : Exit → Act → World → Prop} {i : Nat} {o : Oper} {K : Act → World → Prop} {a : Act} {w : World} (v : Value) (w2 : World) (ho : ops[i]? = some o) (hw : Region.wanted o (yielded ops a.tmps) = true) (hv : (execOp a.eval o).run P w = .ok (.value v) w2)
    (h : K (a.put o.dst v) w2) : wpOp P ops Q i K a w := by
  unfold wpOp
  simp only [ho]
  rw [if_pos hw]
  unfold Oper.wp
  rw [hv, Oper.upon_value]
  exact .inl h
theorem take_snoc (l : List Int) (m k : Nat) (hdl : (diffs l).length = m) (hk : k < m) (hl : l.length = m + 1) : ((diffs l).take k).map I ++ [I (nth l (k + 1) - nth l k)] = ((diffs l).take (k + 1)).map I := by
  rw [List.take_succ_eq_append_getElem (by omega), diffs_at l k (by omega), nth_lt (by omega), nth_lt (by omega)]
  simp

set_option maxRecDepth 100000 in
set_option maxHeartbeats 2000000 in
theorem rdifferences_any (A : Option Addr) (c : Nat) (l : List Int) (b : Nat) (w : World) (hx : IntsR w w.heap.size A l) (h1 : 1 ≤ l.length) (hl : l.length ≤ 64) (hb : b ≤ 1000000000000000) (hB : Bnd b l) :
    Calls Try.prog 82 #[.slice A l.length c] w fun e w' => ∃ A' c', e = .returned (.slice A' (diffs l).length c') ∧ IntsR w' w'.heap.size A' (diffs l) ∧ Below w.heap.size w w' := by
  obtain ⟨m, hm⟩ : ∃ m, l.length = m + 1 := ⟨l.length - 1, by omega⟩
  have hdl : (diffs l).length = m := by rw [diffs_length, hm]; rfl
  rw [hdl, hm]
  have HX := Lib.hid hx
  have HM := Lib.hid hm
  clear hx
  go_enter Try.func82, Try.ntmps82
  go_wp2_with fail
  go_loopw [3, 4] (fun v i wr => ∃ k : Nat, k ≤ m ∧ i = .int .i64 ((k : Int) + 1) ∧ wr.ownsRow w.heap.size 3 1 v k (((diffs l).take k).map I) ∧ Below w.heap.size w wr) (fun _ i _ => m + 1 - (intOf i).toNat)
  case atStart => exact ⟨0, Nat.zero_le _, by simp, World.ownsRow_nil _ _ _ _, Below.refl _ _⟩
  case round =>
    obtain ⟨k, hk, rfl, hown, hBl⟩ := hrel
    obtain ⟨v, hv⟩ : ∃ v : Value, v = u3 := ⟨_, rfl⟩
    subst hv
    by_cases hlt : k < m
    · have hx' := HX.out.below hBl (Nat.le_refl _)
      obtain ⟨ad, rfl, hbl, hc1⟩ := hx'.at_ (k := k) (by omega)
      obtain ⟨ad', hA, hbl', hc2⟩ := hx'.at_ (k := k + 1) (by omega)
      injection hA with hA
      subst hA
      have hbk := hB k (by omega)
      have hbk1 := hB (k + 1) (by omega)
      have q1 := hbk.1
      have q2 := hbk.2
      have q3 := hbk1.1
      have q4 := hbk1.2
      have hsz := hBl.size
      have HT := Lib.hid (take_snoc l m k hdl hlt HM.out)
      clear hbk hbk1 hx' hbl'
      generalize hn : nth l k = x at *
      generalize hn1 : nth l (k + 1) = y at *
      clear hn hn1
      have ey : IntKind.i64.wrap (y - x) = y - x := (IntWalk.i64_left _).trans (IntWalk.wrap64_in _ ⟨by omega, by omega⟩)
      have ek2 : IntKind.i64.wrap ((k : Int) + 1 - 1) = (k : Int) := by rw [show (k : Int) + 1 - 1 = (k : Int) by omega]; exact (IntWalk.i64_left _).trans (IntWalk.wrap64_in _ ⟨by omega, by omega⟩)
      have ead : ad.add (k + 1) = ⟨ad.block, ad.off + (k + 1), none⟩ := by simp [Addr.add]
      rw [ead] at hc2
      obtain ⟨i0, hi0, hz0, hz1, hz2⟩ := info_parts info_int
      have hcg : ∀ w4 : World, (wr.drew.alloc (.cells #[I (y - x)] 3)).grownBy w4 v.ownBlock → ∀ p : Addr, p.block < w.heap.size → w4.cell? p = wr.cell? p := by
        intro w4 hg p hp
        refine (World.cell?_of_block (w := wr.drew.alloc (.cells #[I (y - x)] 3)) (hg.block p.block (by simp; omega) (fun e => ?_))).trans (World.cell?_alloc_lt _ _ _ (by show p.block < wr.heap.size; omega))
        have := (hown.lt _ e.symm).1
        omega
      have hB4 : ∀ w4 : World, (wr.drew.alloc (.cells #[I (y - x)] 3)).grownBy w4 v.ownBlock → Below w.heap.size w w4 := by
        intro w4 hg
        exact (((hBl.trans (Below.refl _ _).drew)).alloc hsz _).grown hg (by simp; omega) (fun j hj => (hown.lt j hj).1)
      have ek9 : IntKind.i64.wrap (k : Int) = (k : Int) := (IntWalk.i64_left _).trans (IntWalk.wrap64_in _ ⟨by omega, by omega⟩)
      have hm64 : m ≤ 63 := by omega
      go_wp2_with fail
      clear hb q1 q2 q3 q4 h1 hl
      refine wp_region_inv (by kernel_rfl) (fun L a w' => L.size = 14 ∧ ∃ s3 v11 v12 v13 v14 v15 v16 v17 v18 v19 v20 v21 v22 v23 : Value, a = { tmps := #[.slice (some ad) (m + 1) c, undef, .slice none 0 0, s3, .int .i64 ((k : Int) + 1), .int .i64 ((k : Int) + 1), .slice (some ad) (m + 1) c, .int .i64 ((m : Int) + 1), .bool true, u9, u10, v11, v12, v13, v14, v15, v16, v17, v18, v19, v20, v21, v22, v23, undef], defers := [] } ∧ (∀ p : Addr, p.block < w.heap.size → w'.cell? p = wr.cell? p) ∧ (L.getD 13 false = true → L.getD 0 false = true ∧ L.getD 12 false = true) ∧ (L.getD 12 false = true → L.getD 11 false = true) ∧ (L.getD 11 false = false → w' = wr.drew) ∧ (L.getD 11 false = true → L.getD 12 false = false → w' = (wr.drew.alloc (.cells #[I (y - x)] 3))) ∧ (L.getD 12 false = true → w'.ownsRow w.heap.size 3 1 v23 (k + 1) (((diffs l).take k).map I ++ [I (y - x)]) ∧ (wr.drew.alloc (.cells #[I (y - x)] 3)).grownBy w' v.ownBlock) ∧ (L.getD 13 false = false → v = s3) ∧ (L.getD 13 false = true → v23 = s3) ∧ (L.getD 0 false = true → v = v11) ∧ (L.getD 1 false = true → v12 = .slice (some ad) (m + 1) c) ∧ (L.getD 2 false = true → v13 = .int .i64 ((k : Int) + 1)) ∧ (L.getD 3 false = true → v14 = .pointer (some ⟨ad.block, ad.off + (k + 1), none⟩)) ∧ (L.getD 4 false = true → v15 = .int .i64 y) ∧ (L.getD 5 false = true → v16 = .slice (some ad) (m + 1) c) ∧ (L.getD 6 false = true → v17 = .int .i64 ((k : Int) + 1)) ∧ (L.getD 7 false = true → v18 = .int .i64 (k : Int)) ∧ (L.getD 8 false = true → v19 = .pointer (some (ad.add k))) ∧ (L.getD 9 false = true → v20 = .int .i64 x) ∧ (L.getD 10 false = true → v21 = .int .i64 (y - x)) ∧ (L.getD 11 false = true → v22 = .slice (some ⟨wr.heap.size, 0, none⟩) 1 1)) ?_ ?_ ?_
      · exact ⟨by simp, _, _, _, _, _, _, _, _, _, _, _, _, _, _, rfl, fun p _ => rfl, by simp, by simp, fun _ => rfl, by simp, by simp, fun _ => rfl, by simp, by simp, by simp, by simp, by simp, by simp, by simp, by simp, by simp, by simp, by simp, by simp, by simp⟩
      · rintro i L a w' ⟨hL, s3, v11, v12, v13, v14, v15, v16, v17, v18, v19, v20, v21, v22, v23, rfl, hce, hD, hE, hw0, hw1, hw2, hs0, hs1, h0, h1, h2, h3, h4, h5, h6, h7, h8, h9, h10, h11⟩ hi
        have hcases : i = 0 ∨ i = 1 ∨ i = 2 ∨ i = 3 ∨ i = 4 ∨ i = 5 ∨ i = 6 ∨ i = 7 ∨ i = 8 ∨ i = 9 ∨ i = 10 ∨ i = 11 ∨ i = 12 ∨ i = 13 := by
          have : i < 14 := ready_lt hi
          omega
        have d1 := (hce (ad.add k) (by rw [block_of_add]; exact hbl)).trans hc1
        have d2 := (hce ⟨ad.block, ad.off + (k + 1), none⟩ hbl).trans hc2
        rcases hcases with rfl | rfl | rfl | rfl | rfl | rfl | rfl | rfl | rfl | rfl | rfl | rfl | rfl | rfl
        · have hq0 := ready_not' hi (by omega)
          have hq13 : L.getD 13 false = false := by
            cases hq : L.getD 13 false
            · rfl
            · exact absurd ((hD hq).1.symm.trans hq0) (by decide)
          obtain rfl := hs0 hq13
          refine wpOp_val (v) rfl (by rfl) (by go_simp) ?_
          exact ⟨by simpa using hL, _, _, _, _, _, _, _, _, _, _, _, _, _, _, rfl, hce, fun h => ⟨set_keep (hD ((set_other (by decide)).symm.trans h)).1, set_keep (hD ((set_other (by decide)).symm.trans h)).2⟩, fun h => set_keep (hE ((set_other (by decide)).symm.trans h)), fun h => hw0 ((set_other (by decide)).symm.trans h), fun h h' => hw1 ((set_other (by decide)).symm.trans h) ((set_other (by decide)).symm.trans h'), fun h => hw2 ((set_other (by decide)).symm.trans h), fun h => hs0 ((set_other (by decide)).symm.trans h), fun h => hs1 ((set_other (by decide)).symm.trans h), fun _ => rfl, (fun h => h1 ((set_other (by decide)).symm.trans h)), (fun h => h2 ((set_other (by decide)).symm.trans h)), (fun h => h3 ((set_other (by decide)).symm.trans h)), (fun h => h4 ((set_other (by decide)).symm.trans h)), (fun h => h5 ((set_other (by decide)).symm.trans h)), (fun h => h6 ((set_other (by decide)).symm.trans h)), (fun h => h7 ((set_other (by decide)).symm.trans h)), (fun h => h8 ((set_other (by decide)).symm.trans h)), (fun h => h9 ((set_other (by decide)).symm.trans h)), (fun h => h10 ((set_other (by decide)).symm.trans h)), (fun h => h11 ((set_other (by decide)).symm.trans h))⟩
        · refine wpOp_val (.slice (some ad) (m + 1) c) rfl (by rfl) (by go_simp) ?_
          exact ⟨by simpa using hL, _, _, _, _, _, _, _, _, _, _, _, _, _, _, rfl, hce, fun h => ⟨set_keep (hD ((set_other (by decide)).symm.trans h)).1, set_keep (hD ((set_other (by decide)).symm.trans h)).2⟩, fun h => set_keep (hE ((set_other (by decide)).symm.trans h)), fun h => hw0 ((set_other (by decide)).symm.trans h), fun h h' => hw1 ((set_other (by decide)).symm.trans h) ((set_other (by decide)).symm.trans h'), fun h => hw2 ((set_other (by decide)).symm.trans h), fun h => hs0 ((set_other (by decide)).symm.trans h), fun h => hs1 ((set_other (by decide)).symm.trans h), (fun h => h0 ((set_other (by decide)).symm.trans h)), fun _ => rfl, (fun h => h2 ((set_other (by decide)).symm.trans h)), (fun h => h3 ((set_other (by decide)).symm.trans h)), (fun h => h4 ((set_other (by decide)).symm.trans h)), (fun h => h5 ((set_other (by decide)).symm.trans h)), (fun h => h6 ((set_other (by decide)).symm.trans h)), (fun h => h7 ((set_other (by decide)).symm.trans h)), (fun h => h8 ((set_other (by decide)).symm.trans h)), (fun h => h9 ((set_other (by decide)).symm.trans h)), (fun h => h10 ((set_other (by decide)).symm.trans h)), (fun h => h11 ((set_other (by decide)).symm.trans h))⟩
        · refine wpOp_val (.int .i64 ((k : Int) + 1)) rfl (by rfl) (by go_simp) ?_
          exact ⟨by simpa using hL, _, _, _, _, _, _, _, _, _, _, _, _, _, _, rfl, hce, fun h => ⟨set_keep (hD ((set_other (by decide)).symm.trans h)).1, set_keep (hD ((set_other (by decide)).symm.trans h)).2⟩, fun h => set_keep (hE ((set_other (by decide)).symm.trans h)), fun h => hw0 ((set_other (by decide)).symm.trans h), fun h h' => hw1 ((set_other (by decide)).symm.trans h) ((set_other (by decide)).symm.trans h'), fun h => hw2 ((set_other (by decide)).symm.trans h), fun h => hs0 ((set_other (by decide)).symm.trans h), fun h => hs1 ((set_other (by decide)).symm.trans h), (fun h => h0 ((set_other (by decide)).symm.trans h)), (fun h => h1 ((set_other (by decide)).symm.trans h)), fun _ => rfl, (fun h => h3 ((set_other (by decide)).symm.trans h)), (fun h => h4 ((set_other (by decide)).symm.trans h)), (fun h => h5 ((set_other (by decide)).symm.trans h)), (fun h => h6 ((set_other (by decide)).symm.trans h)), (fun h => h7 ((set_other (by decide)).symm.trans h)), (fun h => h8 ((set_other (by decide)).symm.trans h)), (fun h => h9 ((set_other (by decide)).symm.trans h)), (fun h => h10 ((set_other (by decide)).symm.trans h)), (fun h => h11 ((set_other (by decide)).symm.trans h))⟩
        · obtain rfl := h1 (ready_dep hi 1 (by kernel_rfl))
          obtain rfl := h2 (ready_dep hi 2 (by kernel_rfl))
          refine wpOp_val (.pointer (some ⟨ad.block, ad.off + (k + 1), none⟩)) rfl (by rfl) (by go_simp; intro h; exfalso; omega) ?_
          exact ⟨by simpa using hL, _, _, _, _, _, _, _, _, _, _, _, _, _, _, rfl, hce, fun h => ⟨set_keep (hD ((set_other (by decide)).symm.trans h)).1, set_keep (hD ((set_other (by decide)).symm.trans h)).2⟩, fun h => set_keep (hE ((set_other (by decide)).symm.trans h)), fun h => hw0 ((set_other (by decide)).symm.trans h), fun h h' => hw1 ((set_other (by decide)).symm.trans h) ((set_other (by decide)).symm.trans h'), fun h => hw2 ((set_other (by decide)).symm.trans h), fun h => hs0 ((set_other (by decide)).symm.trans h), fun h => hs1 ((set_other (by decide)).symm.trans h), (fun h => h0 ((set_other (by decide)).symm.trans h)), (fun h => h1 ((set_other (by decide)).symm.trans h)), (fun h => h2 ((set_other (by decide)).symm.trans h)), fun _ => rfl, (fun h => h4 ((set_other (by decide)).symm.trans h)), (fun h => h5 ((set_other (by decide)).symm.trans h)), (fun h => h6 ((set_other (by decide)).symm.trans h)), (fun h => h7 ((set_other (by decide)).symm.trans h)), (fun h => h8 ((set_other (by decide)).symm.trans h)), (fun h => h9 ((set_other (by decide)).symm.trans h)), (fun h => h10 ((set_other (by decide)).symm.trans h)), (fun h => h11 ((set_other (by decide)).symm.trans h))⟩
        · obtain rfl := h3 (ready_dep hi 3 (by kernel_rfl))
          refine wpOp_val (.int .i64 y) rfl (by rfl) (by go_simp) ?_
          exact ⟨by simpa using hL, _, _, _, _, _, _, _, _, _, _, _, _, _, _, rfl, hce, fun h => ⟨set_keep (hD ((set_other (by decide)).symm.trans h)).1, set_keep (hD ((set_other (by decide)).symm.trans h)).2⟩, fun h => set_keep (hE ((set_other (by decide)).symm.trans h)), fun h => hw0 ((set_other (by decide)).symm.trans h), fun h h' => hw1 ((set_other (by decide)).symm.trans h) ((set_other (by decide)).symm.trans h'), fun h => hw2 ((set_other (by decide)).symm.trans h), fun h => hs0 ((set_other (by decide)).symm.trans h), fun h => hs1 ((set_other (by decide)).symm.trans h), (fun h => h0 ((set_other (by decide)).symm.trans h)), (fun h => h1 ((set_other (by decide)).symm.trans h)), (fun h => h2 ((set_other (by decide)).symm.trans h)), (fun h => h3 ((set_other (by decide)).symm.trans h)), fun _ => rfl, (fun h => h5 ((set_other (by decide)).symm.trans h)), (fun h => h6 ((set_other (by decide)).symm.trans h)), (fun h => h7 ((set_other (by decide)).symm.trans h)), (fun h => h8 ((set_other (by decide)).symm.trans h)), (fun h => h9 ((set_other (by decide)).symm.trans h)), (fun h => h10 ((set_other (by decide)).symm.trans h)), (fun h => h11 ((set_other (by decide)).symm.trans h))⟩
        · refine wpOp_val (.slice (some ad) (m + 1) c) rfl (by rfl) (by go_simp) ?_
          exact ⟨by simpa using hL, _, _, _, _, _, _, _, _, _, _, _, _, _, _, rfl, hce, fun h => ⟨set_keep (hD ((set_other (by decide)).symm.trans h)).1, set_keep (hD ((set_other (by decide)).symm.trans h)).2⟩, fun h => set_keep (hE ((set_other (by decide)).symm.trans h)), fun h => hw0 ((set_other (by decide)).symm.trans h), fun h h' => hw1 ((set_other (by decide)).symm.trans h) ((set_other (by decide)).symm.trans h'), fun h => hw2 ((set_other (by decide)).symm.trans h), fun h => hs0 ((set_other (by decide)).symm.trans h), fun h => hs1 ((set_other (by decide)).symm.trans h), (fun h => h0 ((set_other (by decide)).symm.trans h)), (fun h => h1 ((set_other (by decide)).symm.trans h)), (fun h => h2 ((set_other (by decide)).symm.trans h)), (fun h => h3 ((set_other (by decide)).symm.trans h)), (fun h => h4 ((set_other (by decide)).symm.trans h)), fun _ => rfl, (fun h => h6 ((set_other (by decide)).symm.trans h)), (fun h => h7 ((set_other (by decide)).symm.trans h)), (fun h => h8 ((set_other (by decide)).symm.trans h)), (fun h => h9 ((set_other (by decide)).symm.trans h)), (fun h => h10 ((set_other (by decide)).symm.trans h)), (fun h => h11 ((set_other (by decide)).symm.trans h))⟩
        · refine wpOp_val (.int .i64 ((k : Int) + 1)) rfl (by rfl) (by go_simp) ?_
          exact ⟨by simpa using hL, _, _, _, _, _, _, _, _, _, _, _, _, _, _, rfl, hce, fun h => ⟨set_keep (hD ((set_other (by decide)).symm.trans h)).1, set_keep (hD ((set_other (by decide)).symm.trans h)).2⟩, fun h => set_keep (hE ((set_other (by decide)).symm.trans h)), fun h => hw0 ((set_other (by decide)).symm.trans h), fun h h' => hw1 ((set_other (by decide)).symm.trans h) ((set_other (by decide)).symm.trans h'), fun h => hw2 ((set_other (by decide)).symm.trans h), fun h => hs0 ((set_other (by decide)).symm.trans h), fun h => hs1 ((set_other (by decide)).symm.trans h), (fun h => h0 ((set_other (by decide)).symm.trans h)), (fun h => h1 ((set_other (by decide)).symm.trans h)), (fun h => h2 ((set_other (by decide)).symm.trans h)), (fun h => h3 ((set_other (by decide)).symm.trans h)), (fun h => h4 ((set_other (by decide)).symm.trans h)), (fun h => h5 ((set_other (by decide)).symm.trans h)), fun _ => rfl, (fun h => h7 ((set_other (by decide)).symm.trans h)), (fun h => h8 ((set_other (by decide)).symm.trans h)), (fun h => h9 ((set_other (by decide)).symm.trans h)), (fun h => h10 ((set_other (by decide)).symm.trans h)), (fun h => h11 ((set_other (by decide)).symm.trans h))⟩
        · obtain rfl := h6 (ready_dep hi 6 (by kernel_rfl))
          refine wpOp_val (.int .i64 (k : Int)) rfl (by rfl) (by go_simp) ?_
          exact ⟨by simpa using hL, _, _, _, _, _, _, _, _, _, _, _, _, _, _, rfl, hce, fun h => ⟨set_keep (hD ((set_other (by decide)).symm.trans h)).1, set_keep (hD ((set_other (by decide)).symm.trans h)).2⟩, fun h => set_keep (hE ((set_other (by decide)).symm.trans h)), fun h => hw0 ((set_other (by decide)).symm.trans h), fun h h' => hw1 ((set_other (by decide)).symm.trans h) ((set_other (by decide)).symm.trans h'), fun h => hw2 ((set_other (by decide)).symm.trans h), fun h => hs0 ((set_other (by decide)).symm.trans h), fun h => hs1 ((set_other (by decide)).symm.trans h), (fun h => h0 ((set_other (by decide)).symm.trans h)), (fun h => h1 ((set_other (by decide)).symm.trans h)), (fun h => h2 ((set_other (by decide)).symm.trans h)), (fun h => h3 ((set_other (by decide)).symm.trans h)), (fun h => h4 ((set_other (by decide)).symm.trans h)), (fun h => h5 ((set_other (by decide)).symm.trans h)), (fun h => h6 ((set_other (by decide)).symm.trans h)), fun _ => rfl, (fun h => h8 ((set_other (by decide)).symm.trans h)), (fun h => h9 ((set_other (by decide)).symm.trans h)), (fun h => h10 ((set_other (by decide)).symm.trans h)), (fun h => h11 ((set_other (by decide)).symm.trans h))⟩
        · obtain rfl := h5 (ready_dep hi 5 (by kernel_rfl))
          obtain rfl := h7 (ready_dep hi 7 (by kernel_rfl))
          refine wpOp_val (.pointer (some (ad.add k))) rfl (by rfl) (by go_simp; intro h; exfalso; omega) ?_
          exact ⟨by simpa using hL, _, _, _, _, _, _, _, _, _, _, _, _, _, _, rfl, hce, fun h => ⟨set_keep (hD ((set_other (by decide)).symm.trans h)).1, set_keep (hD ((set_other (by decide)).symm.trans h)).2⟩, fun h => set_keep (hE ((set_other (by decide)).symm.trans h)), fun h => hw0 ((set_other (by decide)).symm.trans h), fun h h' => hw1 ((set_other (by decide)).symm.trans h) ((set_other (by decide)).symm.trans h'), fun h => hw2 ((set_other (by decide)).symm.trans h), fun h => hs0 ((set_other (by decide)).symm.trans h), fun h => hs1 ((set_other (by decide)).symm.trans h), (fun h => h0 ((set_other (by decide)).symm.trans h)), (fun h => h1 ((set_other (by decide)).symm.trans h)), (fun h => h2 ((set_other (by decide)).symm.trans h)), (fun h => h3 ((set_other (by decide)).symm.trans h)), (fun h => h4 ((set_other (by decide)).symm.trans h)), (fun h => h5 ((set_other (by decide)).symm.trans h)), (fun h => h6 ((set_other (by decide)).symm.trans h)), (fun h => h7 ((set_other (by decide)).symm.trans h)), fun _ => rfl, (fun h => h9 ((set_other (by decide)).symm.trans h)), (fun h => h10 ((set_other (by decide)).symm.trans h)), (fun h => h11 ((set_other (by decide)).symm.trans h))⟩
        · obtain rfl := h8 (ready_dep hi 8 (by kernel_rfl))
          refine wpOp_val (.int .i64 x) rfl (by rfl) (by go_simp) ?_
          exact ⟨by simpa using hL, _, _, _, _, _, _, _, _, _, _, _, _, _, _, rfl, hce, fun h => ⟨set_keep (hD ((set_other (by decide)).symm.trans h)).1, set_keep (hD ((set_other (by decide)).symm.trans h)).2⟩, fun h => set_keep (hE ((set_other (by decide)).symm.trans h)), fun h => hw0 ((set_other (by decide)).symm.trans h), fun h h' => hw1 ((set_other (by decide)).symm.trans h) ((set_other (by decide)).symm.trans h'), fun h => hw2 ((set_other (by decide)).symm.trans h), fun h => hs0 ((set_other (by decide)).symm.trans h), fun h => hs1 ((set_other (by decide)).symm.trans h), (fun h => h0 ((set_other (by decide)).symm.trans h)), (fun h => h1 ((set_other (by decide)).symm.trans h)), (fun h => h2 ((set_other (by decide)).symm.trans h)), (fun h => h3 ((set_other (by decide)).symm.trans h)), (fun h => h4 ((set_other (by decide)).symm.trans h)), (fun h => h5 ((set_other (by decide)).symm.trans h)), (fun h => h6 ((set_other (by decide)).symm.trans h)), (fun h => h7 ((set_other (by decide)).symm.trans h)), (fun h => h8 ((set_other (by decide)).symm.trans h)), fun _ => rfl, (fun h => h10 ((set_other (by decide)).symm.trans h)), (fun h => h11 ((set_other (by decide)).symm.trans h))⟩
        · obtain rfl := h4 (ready_dep hi 4 (by kernel_rfl))
          obtain rfl := h9 (ready_dep hi 9 (by kernel_rfl))
          refine wpOp_val (.int .i64 (y - x)) rfl (by rfl) (by go_simp) ?_
          exact ⟨by simpa using hL, _, _, _, _, _, _, _, _, _, _, _, _, _, _, rfl, hce, fun h => ⟨set_keep (hD ((set_other (by decide)).symm.trans h)).1, set_keep (hD ((set_other (by decide)).symm.trans h)).2⟩, fun h => set_keep (hE ((set_other (by decide)).symm.trans h)), fun h => hw0 ((set_other (by decide)).symm.trans h), fun h h' => hw1 ((set_other (by decide)).symm.trans h) ((set_other (by decide)).symm.trans h'), fun h => hw2 ((set_other (by decide)).symm.trans h), fun h => hs0 ((set_other (by decide)).symm.trans h), fun h => hs1 ((set_other (by decide)).symm.trans h), (fun h => h0 ((set_other (by decide)).symm.trans h)), (fun h => h1 ((set_other (by decide)).symm.trans h)), (fun h => h2 ((set_other (by decide)).symm.trans h)), (fun h => h3 ((set_other (by decide)).symm.trans h)), (fun h => h4 ((set_other (by decide)).symm.trans h)), (fun h => h5 ((set_other (by decide)).symm.trans h)), (fun h => h6 ((set_other (by decide)).symm.trans h)), (fun h => h7 ((set_other (by decide)).symm.trans h)), (fun h => h8 ((set_other (by decide)).symm.trans h)), (fun h => h9 ((set_other (by decide)).symm.trans h)), fun _ => rfl, (fun h => h11 ((set_other (by decide)).symm.trans h))⟩
        · obtain rfl := h10 (ready_dep hi 10 (by kernel_rfl))
          have hq11 := ready_not' hi (by omega)
          have hwz := hw0 hq11
          subst hwz
          refine wpOp_mem (.slice (some ⟨wr.heap.size, 0, none⟩) 1 1) (wr.drew.alloc (.cells #[I (y - x)] 3)) rfl (by rfl) (by go_simp) ?_
          exact ⟨by simpa using hL, _, _, _, _, _, _, _, _, _, _, _, _, _, _, rfl, fun p hp => (World.cell?_alloc_lt _ _ _ (by show p.block < wr.heap.size; omega)).trans (hce p hp), fun h => ⟨set_keep (hD ((set_other (by decide)).symm.trans h)).1, set_keep (hD ((set_other (by decide)).symm.trans h)).2⟩, fun h => set_keep (hE ((set_other (by decide)).symm.trans h)), fun h => absurd ((set_same (by omega)).symm.trans h) (by decide), fun _ _ => rfl, fun h => absurd ((hE ((set_other (by decide)).symm.trans h)).symm.trans hq11) (by decide), fun h => hs0 ((set_other (by decide)).symm.trans h), fun h => hs1 ((set_other (by decide)).symm.trans h), (fun h => h0 ((set_other (by decide)).symm.trans h)), (fun h => h1 ((set_other (by decide)).symm.trans h)), (fun h => h2 ((set_other (by decide)).symm.trans h)), (fun h => h3 ((set_other (by decide)).symm.trans h)), (fun h => h4 ((set_other (by decide)).symm.trans h)), (fun h => h5 ((set_other (by decide)).symm.trans h)), (fun h => h6 ((set_other (by decide)).symm.trans h)), (fun h => h7 ((set_other (by decide)).symm.trans h)), (fun h => h8 ((set_other (by decide)).symm.trans h)), (fun h => h9 ((set_other (by decide)).symm.trans h)), (fun h => h10 ((set_other (by decide)).symm.trans h)), fun _ => rfl⟩
        · obtain rfl := h0 (ready_dep hi 0 (by kernel_rfl))
          obtain rfl := h11 (ready_dep hi 11 (by kernel_rfl))
          have hwz := hw1 (ready_dep hi 11 (by kernel_rfl)) (ready_not' hi (by omega))
          subst hwz
          refine wpOp_wp rfl (by rfl) (wp_append_own _ (.tmp 11) (.tmp 22) 29 rfl w.heap.size 3 i0 (.int .i64 0) 1 8 Try.underlying29 hi0 hz0 hz1 hz2 rfl (by decide) v k (((diffs l).take k).map I) rfl (hown.drew.alloc _) ⟨wr.heap.size, 0, none⟩ 1 1 [I (y - x)] rfl rfl ?c1 ?c2 ?c3 ?c4 ?c5 ?_)
          case c1 =>
            intro j u hj
            match j, hj with
            | 0, hj => simp at hj; subst hj; exact alloc_cell wr.drew _ _ 0
          case c2 => intro u hu; simp at hu; subst hu; rfl
          case c3 => unfold maxLen; omega
          case c4 => omega
          case c5 => simp; omega
          have hq11 := ready_dep hi 11 (by kernel_rfl)
          have hq12 := ready_not' hi (by omega)
          intro v' w4 hown' hgrow _
          exact ⟨by simpa using hL, _, _, _, _, _, _, _, _, _, _, _, _, _, _, rfl, fun p hp => (hcg w4 hgrow p hp), fun h => ⟨set_keep (hD ((set_other (by decide)).symm.trans h)).1, set_keep (hD ((set_other (by decide)).symm.trans h)).2⟩, fun _ => set_keep hq11, fun h => absurd (hq11.symm.trans ((set_other (by decide)).symm.trans h)) (by decide), fun _ h => absurd ((set_same (by omega)).symm.trans h) (by decide), fun _ => ⟨hown', hgrow⟩, fun h => hs0 ((set_other (by decide)).symm.trans h), fun h => absurd ((hD ((set_other (by decide)).symm.trans h)).2.symm.trans hq12) (by decide), (fun h => h0 ((set_other (by decide)).symm.trans h)), (fun h => h1 ((set_other (by decide)).symm.trans h)), (fun h => h2 ((set_other (by decide)).symm.trans h)), (fun h => h3 ((set_other (by decide)).symm.trans h)), (fun h => h4 ((set_other (by decide)).symm.trans h)), (fun h => h5 ((set_other (by decide)).symm.trans h)), (fun h => h6 ((set_other (by decide)).symm.trans h)), (fun h => h7 ((set_other (by decide)).symm.trans h)), (fun h => h8 ((set_other (by decide)).symm.trans h)), (fun h => h9 ((set_other (by decide)).symm.trans h)), (fun h => h10 ((set_other (by decide)).symm.trans h)), (fun h => h11 ((set_other (by decide)).symm.trans h))⟩
        · refine wpOp_val v23 rfl (by rfl) (by go_simp) ?_
          exact ⟨by simpa using hL, _, _, _, _, _, _, _, _, _, _, _, _, _, _, rfl, hce, fun _ => ⟨set_keep (ready_dep hi 0 (by kernel_rfl)), set_keep (ready_dep hi 12 (by kernel_rfl))⟩, fun h => set_keep (hE ((set_other (by decide)).symm.trans h)), fun h => hw0 ((set_other (by decide)).symm.trans h), fun h h' => hw1 ((set_other (by decide)).symm.trans h) ((set_other (by decide)).symm.trans h'), fun h => hw2 ((set_other (by decide)).symm.trans h), fun h => absurd ((set_same (by omega)).symm.trans h) (by decide), fun _ => rfl, (fun h => h0 ((set_other (by decide)).symm.trans h)), (fun h => h1 ((set_other (by decide)).symm.trans h)), (fun h => h2 ((set_other (by decide)).symm.trans h)), (fun h => h3 ((set_other (by decide)).symm.trans h)), (fun h => h4 ((set_other (by decide)).symm.trans h)), (fun h => h5 ((set_other (by decide)).symm.trans h)), (fun h => h6 ((set_other (by decide)).symm.trans h)), (fun h => h7 ((set_other (by decide)).symm.trans h)), (fun h => h8 ((set_other (by decide)).symm.trans h)), (fun h => h9 ((set_other (by decide)).symm.trans h)), (fun h => h10 ((set_other (by decide)).symm.trans h)), (fun h => h11 ((set_other (by decide)).symm.trans h))⟩
      · rintro L a w' ⟨hL, s3, v11, v12, v13, v14, v15, v16, v17, v18, v19, v20, v21, v22, v23, rfl, hce, hD, hE, hw0, hw1, hw2, hs0, hs1, h0, h1, h2, h3, h4, h5, h6, h7, h8, h9, h10, h11⟩ hr
        have hall := all_listed hL (by kernel_rfl) hr
        obtain rfl := h0 (hall 0 (by decide))
        obtain rfl := h1 (hall 1 (by decide))
        obtain rfl := h2 (hall 2 (by decide))
        obtain rfl := h3 (hall 3 (by decide))
        obtain rfl := h4 (hall 4 (by decide))
        obtain rfl := h5 (hall 5 (by decide))
        obtain rfl := h6 (hall 6 (by decide))
        obtain rfl := h7 (hall 7 (by decide))
        obtain rfl := h8 (hall 8 (by decide))
        obtain rfl := h9 (hall 9 (by decide))
        obtain rfl := h10 (hall 10 (by decide))
        obtain rfl := h11 (hall 11 (by decide))
        obtain rfl := hs1 (hall 13 (by decide))
        obtain ⟨hown', hgrow⟩ := hw2 (hall 12 (by decide))
        clear hall hr hL hce hD hE hw0 hw1 hw2 hs0 hs1
        try dsimp only
        go_wp2
        go_roundw
        case rel => exact ⟨k + 1, by omega, by go_num, by rw [← HT.out]; exact hown', hB4 _ hgrow⟩
        case measure => simp [intOf]; omega
    · obtain rfl : k = m := by omega
      go_wp2
      go_ret
      rw [← hdl, List.take_length] at hown
      obtain ⟨A', c', e, hi, _⟩ := own_ints hown
      exact ⟨A', c', by rw [hdl] at e; rw [← e]; rfl, hi, hBl⟩
end Go.Proofs.Ytfjincdlenneaaa
/-
  CONTRACT: slices.Repeat of one number.
-/
namespace Go.Proofs.Ytfjincdlenneaaa
open Go.RowKit Go.Shelf
/-- a row of n, the first p of which are filled -/
def repL (lo : Int) (n p : Nat) : List Value := (List.replicate p lo ++ List.replicate (n - p) 0).map I
def RepR (lo : Int) (n g p : Nat) (w : World) : Prop := w.heap[g]? = some (.cells (repL lo n p).toArray 3 (0, 0))
theorem info_i3 : (Try.prog.info? 3).map (·.size) = some 1 := by kernel_rfl
theorem of_step {c : Prop} [Decidable c] {A E : Prop} (hc : c) (h : if c then A else E) : A := by rwa [if_pos hc] at h
theorem repL_splice (lo : Int) (n p q : Nat) (h : p + q ≤ n) : splice (repL lo n p) p (List.replicate q (I lo)) = repL lo n (p + q) := by
  simp only [splice, repL, List.map_append, List.map_replicate]
  rw [List.take_left' (by simp), List.drop_append]
  simp only [List.length_replicate, List.drop_replicate]
  rw [← List.replicate_append_replicate (n := p) (m := q)]
  have a : p - (p + q) = 0 := by omega
  have b : n - p - (p + q - p) = n - (p + q) := by omega
  simp only [a, b, List.replicate_zero, List.nil_append, List.append_assoc]

set_option maxRecDepth 100000 in
set_option maxHeartbeats 1000000 in
theorem repeat_any (lo : Int) (n c g : Nat) (w : World) (hn : n ≤ 1000) (hx : w.cell? ⟨g, 0, none⟩ = some (I lo)) (hg : g < w.heap.size) :
    Calls Try.prog 154 #[.slice (some ⟨g, 0, none⟩) 1 c, I (n : Nat)] w fun e w' => e = .returned (.slice (some ⟨w.heap.size, 0, none⟩) n n) ∧ RepR lo n w.heap.size n w' ∧ Below w.heap.size w w' := by
  have hmk := run_make_row' (P := Try.prog) 29 3 (.int .i64 0) 8 Try.underlying29 info_int rfl .i64 .i64 n (by omega) (by omega)
  simp only [made_zeros] at hmk
  have ew : IntKind.u64.wrap (n : Int) = (n : Int) := by simp [IntKind.wrap, IntKind.bits, IntKind.signed]; omega
  have e1 : IntKind.u64.wrap (1 : Int) = 1 := by decide
  have ei : IntKind.i64.wrap (n : Int) = (n : Int) := (IntWalk.i64_left _).trans (IntWalk.wrap64_in _ ⟨by omega, by omega⟩)
  go_enter Try.func154, Try.ntmps154
  go_upto_region 7 with (go_at_call 169; refine (mul_one n _ hn).mono ?_; rintro e w' ⟨rfl, hw'⟩; have hw2 := hw'.symm; clear hw'; subst hw2)
  obtain ⟨w1, hw1⟩ : ∃ w1, w1 = w.alloc (.cells (Array.replicate n (I 0)) 3) := ⟨_, rfl⟩
  rw [← hw1]
  have hb1 : Below w.heap.size w w1 := by rw [hw1]; exact (Below.refl _ _).alloc (Nat.le_refl _) _
  have hg1 : w1.heap[w.heap.size]? = some (.cells (repL lo n 0).toArray 3 (0, 0)) := by rw [hw1]; refine (alloc_obj _ _ _ rfl).trans ?_; simp [repL]
  have hx1 := (hb1.cell (p := ⟨g, 0, none⟩) hg).trans hx
  clear hw1 hmk
  go_wp2_with (with_reducible show wpList _ _ _ (⟨some 33, _, _, _, _, _⟩ :: _) _ _; go_must (refine wpList_copy_splice rfl (.tmp 31) (.tmp 32) 29 29 rfl 3 Try.underlying29 info_i3 _ _ _ _ _ _ rfl rfl w.heap.size 0 (repL lo n 0) 3 ?c1 (List.replicate (Nat.min 1 n) (I lo)) ?c2 ?c3 ?c4 ?c5 w.heap.size w1 ?c6 ?c7 ?_); rotate_right; intro w3 hg3 hb3)
  case c1 => exact hg1
  case c2 => simp
  case c3 =>
    intro _ j v hj
    obtain ⟨hj1, e⟩ := List.getElem?_eq_some_iff.1 hj
    have hj0 : j = 0 := by
      rw [List.length_replicate] at hj1
      have h9 : Nat.min 1 n ≤ 1 := Nat.min_le_left 1 n
      omega
    subst hj0
    simp at e
    subst e
    exact hx1
  case c4 => simp [repL]; exact Nat.min_le_right 1 n
  case c5 => simp [Value.oneCell']
  case c6 => exact Below.refl _ _
  case c7 => exact Nat.le_refl _
  have hK : RepR lo n w.heap.size (Nat.min 1 n) w3 := by
    have := hg3.out
    rw [repL_splice lo n 0 (Nat.min 1 n) (by rw [Nat.zero_add]; exact Nat.min_le_right 1 n), Nat.zero_add] at this
    exact this
  have hp1 : Nat.min 1 n ≤ n := Nat.min_le_right 1 n
  have hp2 : n = 0 ∨ 0 < Nat.min 1 n := by rcases Nat.eq_zero_or_pos n with h | h; exact .inl h; exact .inr (Nat.lt_min.2 ⟨by omega, h⟩)
  have hB3 : Below w.heap.size w w3 := hb1.trans hb3
  generalize hpz : Nat.min 1 n = p0 at *
  clear hpz hb1 hg1 hx1 hg3 hb3 hx
  go_loopw [8] (fun v wr => ∃ p : Nat, p ≤ n ∧ (n = 0 ∨ 0 < p) ∧ v = .int .i64 p ∧ Hid (RepR lo n w.heap.size p wr) ∧ Below w.heap.size w wr) (fun v _ => n - (intOf v).toNat)
  case atStart => exact ⟨p0, hp1, hp2, rfl, Lib.hid hK, hB3⟩
  case round =>
    obtain ⟨p, hp, hp0, rfl, HK, hBl⟩ := hrel
    clear hK hp1 hp2 hB3
    by_cases hpn : p < n
    · go_wp2_with fail
      obtain ⟨q, hq⟩ : ∃ q, q = Nat.min p (n - p) := ⟨_, rfl⟩
      have hq1 : q ≤ p := by rw [hq]; exact Nat.min_le_left _ _
      have hq2 : q ≤ n - p := by rw [hq]; exact Nat.min_le_right _ _
      have hq3 : 0 < q := by rw [hq]; exact Nat.lt_min.2 ⟨by omega, by omega⟩
      have hpq : p + q ≤ n := by omega
      have hcq : (List.replicate q (I lo)).length = Nat.min p (n - p) := by rw [List.length_replicate, hq]
      have HCQ := Lib.hid hcq
      have hne : ¬ n = p := by omega
      clear hcq hq
      have hone : ∀ v ∈ List.replicate q (I lo), v.oneCell' = true := by intro v hv; rw [List.eq_of_mem_replicate hv]; rfl
      have hfit : p + (List.replicate q (I lo)).length ≤ (repL lo n p).length := by simp [repL]; omega
      have hsrc : 0 < (List.replicate q (I lo)).length → some (⟨w.heap.size, p, none⟩ : Addr) = some ⟨w.heap.size, p, none⟩ ∧ ∃ ad, some (⟨w.heap.size, 0, none⟩ : Addr) = some ad ∧ ∀ j v, (List.replicate q (I lo))[j]? = some v → wr.drew.cell? (ad.add j) = some v := by
        intro _
        refine ⟨rfl, _, rfl, fun j v hj => ?_⟩
        obtain ⟨hj1, e⟩ := List.getElem?_eq_some_iff.1 hj
        rw [List.length_replicate] at hj1
        have hadd : (⟨w.heap.size, 0, none⟩ : Addr).add j = ⟨w.heap.size, j, none⟩ := by unfold Addr.add; split <;> simp_all
        rw [hadd]
        refine (cell_of_row wr _ j _ _ _ HK.out).trans ?_
        rw [← e]
        simp [repL, List.getElem?_append, show j < p by omega]
      have eq1 : IntKind.i64.wrap ((p : Int) + q) = (p : Int) + q := (IntWalk.i64_left _).trans (IntWalk.wrap64_in _ ⟨by omega, by omega⟩)
      refine wp_region_inv (by kernel_rfl) (fun L a w' => L.size = 10 ∧ ∃ s8 v38 v39 v40 v41 v42 v43 v44 v45 v46 : Value, a = { tmps := #[.slice (some ⟨g, 0, none⟩) 1 c, .int .i64 (n : Int), undef, undef, .slice none 0 0, .int .u64 0, .int .u64 (n : Int), .slice (some ⟨w.heap.size, 0, none⟩) n n, s8, .int .i64 (n : Int), .bool (decide ((n : Int) < 0)), undef, .tuple #[.int .u64 0, .int .u64 (n : Int)], .slice (some ⟨g, 0, none⟩) 1 c, .int .i64 1, .int .u64 1, .int .i64 (n : Int), .int .u64 (n : Int), .tuple #[.int .u64 0, .int .u64 (n : Int)], .int .u64 0, .int .u64 (n : Int), .int .u64 0, .bool false, .bool false, .int .u64 (n : Int), .bool (decide (9223372036854775807 < (n : Int))), .bool (decide (9223372036854775807 < (n : Int))), undef, .int .u64 (n : Int), .int .i64 (n : Int), .slice (some ⟨w.heap.size, 0, none⟩) n n, .slice (some ⟨w.heap.size, 0, none⟩) n n, .slice (some ⟨g, 0, none⟩) 1 c, .int .i64 (p0 : Int), .int .i64 (p : Int), .slice (some ⟨w.heap.size, 0, none⟩) n n, .int .i64 (n : Int), .bool true, v38, v39, v40, v41, v42, v43, v44, v45, v46, undef], defers := [] } ∧ (L.getD 9 false = true → L.getD 0 false = true ∧ L.getD 2 false = true ∧ L.getD 5 false = true ∧ L.getD 8 false = true) ∧ (L.getD 7 false = false → w' = wr.drew) ∧ (L.getD 7 false = true → RepR lo n w.heap.size (p + q) w' ∧ Below w.heap.size w w') ∧ (L.getD 9 false = false → s8 = .int .i64 (p : Int)) ∧ (L.getD 9 false = true → v46 = s8) ∧ (L.getD 0 false = true → v38 = .int .i64 (p : Int)) ∧ (L.getD 1 false = true → v39 = .slice (some ⟨w.heap.size, 0, none⟩) n n) ∧ (L.getD 2 false = true → v40 = .int .i64 (p : Int)) ∧ (L.getD 3 false = true → v41 = .slice (some ⟨w.heap.size, p, none⟩) (n - p) (n - p)) ∧ (L.getD 4 false = true → v42 = .slice (some ⟨w.heap.size, 0, none⟩) n n) ∧ (L.getD 5 false = true → v43 = .int .i64 (p : Int)) ∧ (L.getD 6 false = true → v44 = .slice (some ⟨w.heap.size, 0, none⟩) p n) ∧ (L.getD 7 false = true → v45 = .int .i64 (q : Int)) ∧ (L.getD 8 false = true → v46 = .int .i64 ((p : Int) + q))) ?_ ?_ ?_
      · exact ⟨by simp, _, _, _, _, _, _, _, _, _, _, rfl, by simp, fun _ => rfl, by simp, fun _ => rfl, by simp, by simp, by simp, by simp, by simp, by simp, by simp, by simp, by simp, by simp⟩
      · rintro i L a w' ⟨hL, s8, v38, v39, v40, v41, v42, v43, v44, v45, v46, rfl, hD, hw0, hw1, hs0, hs1, h0, h1, h2, h3, h4, h5, h6, h7, h8⟩ hi
        have hcases : i = 0 ∨ i = 1 ∨ i = 2 ∨ i = 3 ∨ i = 4 ∨ i = 5 ∨ i = 6 ∨ i = 7 ∨ i = 8 ∨ i = 9 := by
          have : i < 10 := ready_lt hi
          omega
        rcases hcases with rfl | rfl | rfl | rfl | rfl | rfl | rfl | rfl | rfl | rfl
        · have hq0 := ready_not' hi (by omega)
          have hq9 : L.getD 9 false = false := by
            cases hq : L.getD 9 false
            · rfl
            · exact absurd ((hD hq).1.symm.trans hq0) (by decide)
          obtain rfl := hs0 hq9
          refine wpOp_val (.int .i64 (p : Int)) rfl (by rfl) (by go_simp) ?_
          exact ⟨by simpa using hL, _, _, _, _, _, _, _, _, _, _, rfl, fun h => ⟨set_keep (hD ((set_other (by decide)).symm.trans h)).1, set_keep (hD ((set_other (by decide)).symm.trans h)).2.1, set_keep (hD ((set_other (by decide)).symm.trans h)).2.2.1, set_keep (hD ((set_other (by decide)).symm.trans h)).2.2.2⟩, fun h => hw0 ((set_other (by decide)).symm.trans h), fun h => hw1 ((set_other (by decide)).symm.trans h), fun h => hs0 ((set_other (by decide)).symm.trans h), fun h => hs1 ((set_other (by decide)).symm.trans h), fun _ => rfl, (fun h => h1 ((set_other (by decide)).symm.trans h)), (fun h => h2 ((set_other (by decide)).symm.trans h)), (fun h => h3 ((set_other (by decide)).symm.trans h)), (fun h => h4 ((set_other (by decide)).symm.trans h)), (fun h => h5 ((set_other (by decide)).symm.trans h)), (fun h => h6 ((set_other (by decide)).symm.trans h)), (fun h => h7 ((set_other (by decide)).symm.trans h)), (fun h => h8 ((set_other (by decide)).symm.trans h))⟩
        · refine wpOp_val (.slice (some ⟨w.heap.size, 0, none⟩) n n) rfl (by rfl) (by go_simp) ?_
          exact ⟨by simpa using hL, _, _, _, _, _, _, _, _, _, _, rfl, fun h => ⟨set_keep (hD ((set_other (by decide)).symm.trans h)).1, set_keep (hD ((set_other (by decide)).symm.trans h)).2.1, set_keep (hD ((set_other (by decide)).symm.trans h)).2.2.1, set_keep (hD ((set_other (by decide)).symm.trans h)).2.2.2⟩, fun h => hw0 ((set_other (by decide)).symm.trans h), fun h => hw1 ((set_other (by decide)).symm.trans h), fun h => hs0 ((set_other (by decide)).symm.trans h), fun h => hs1 ((set_other (by decide)).symm.trans h), (fun h => h0 ((set_other (by decide)).symm.trans h)), fun _ => rfl, (fun h => h2 ((set_other (by decide)).symm.trans h)), (fun h => h3 ((set_other (by decide)).symm.trans h)), (fun h => h4 ((set_other (by decide)).symm.trans h)), (fun h => h5 ((set_other (by decide)).symm.trans h)), (fun h => h6 ((set_other (by decide)).symm.trans h)), (fun h => h7 ((set_other (by decide)).symm.trans h)), (fun h => h8 ((set_other (by decide)).symm.trans h))⟩
        · have hq0 := ready_not' hi (by omega)
          have hq9 : L.getD 9 false = false := by
            cases hq : L.getD 9 false
            · rfl
            · exact absurd ((hD hq).2.1.symm.trans hq0) (by decide)
          obtain rfl := hs0 hq9
          refine wpOp_val (.int .i64 (p : Int)) rfl (by rfl) (by go_simp) ?_
          exact ⟨by simpa using hL, _, _, _, _, _, _, _, _, _, _, rfl, fun h => ⟨set_keep (hD ((set_other (by decide)).symm.trans h)).1, set_keep (hD ((set_other (by decide)).symm.trans h)).2.1, set_keep (hD ((set_other (by decide)).symm.trans h)).2.2.1, set_keep (hD ((set_other (by decide)).symm.trans h)).2.2.2⟩, fun h => hw0 ((set_other (by decide)).symm.trans h), fun h => hw1 ((set_other (by decide)).symm.trans h), fun h => hs0 ((set_other (by decide)).symm.trans h), fun h => hs1 ((set_other (by decide)).symm.trans h), (fun h => h0 ((set_other (by decide)).symm.trans h)), (fun h => h1 ((set_other (by decide)).symm.trans h)), fun _ => rfl, (fun h => h3 ((set_other (by decide)).symm.trans h)), (fun h => h4 ((set_other (by decide)).symm.trans h)), (fun h => h5 ((set_other (by decide)).symm.trans h)), (fun h => h6 ((set_other (by decide)).symm.trans h)), (fun h => h7 ((set_other (by decide)).symm.trans h)), (fun h => h8 ((set_other (by decide)).symm.trans h))⟩
        · obtain rfl := h1 (ready_dep hi 1 (by kernel_rfl))
          obtain rfl := h2 (ready_dep hi 2 (by kernel_rfl))
          refine wpOp_val (.slice (some ⟨w.heap.size, p, none⟩) (n - p) (n - p)) rfl (by rfl) (by go_simp) ?_
          exact ⟨by simpa using hL, _, _, _, _, _, _, _, _, _, _, rfl, fun h => ⟨set_keep (hD ((set_other (by decide)).symm.trans h)).1, set_keep (hD ((set_other (by decide)).symm.trans h)).2.1, set_keep (hD ((set_other (by decide)).symm.trans h)).2.2.1, set_keep (hD ((set_other (by decide)).symm.trans h)).2.2.2⟩, fun h => hw0 ((set_other (by decide)).symm.trans h), fun h => hw1 ((set_other (by decide)).symm.trans h), fun h => hs0 ((set_other (by decide)).symm.trans h), fun h => hs1 ((set_other (by decide)).symm.trans h), (fun h => h0 ((set_other (by decide)).symm.trans h)), (fun h => h1 ((set_other (by decide)).symm.trans h)), (fun h => h2 ((set_other (by decide)).symm.trans h)), fun _ => rfl, (fun h => h4 ((set_other (by decide)).symm.trans h)), (fun h => h5 ((set_other (by decide)).symm.trans h)), (fun h => h6 ((set_other (by decide)).symm.trans h)), (fun h => h7 ((set_other (by decide)).symm.trans h)), (fun h => h8 ((set_other (by decide)).symm.trans h))⟩
        · refine wpOp_val (.slice (some ⟨w.heap.size, 0, none⟩) n n) rfl (by rfl) (by go_simp) ?_
          exact ⟨by simpa using hL, _, _, _, _, _, _, _, _, _, _, rfl, fun h => ⟨set_keep (hD ((set_other (by decide)).symm.trans h)).1, set_keep (hD ((set_other (by decide)).symm.trans h)).2.1, set_keep (hD ((set_other (by decide)).symm.trans h)).2.2.1, set_keep (hD ((set_other (by decide)).symm.trans h)).2.2.2⟩, fun h => hw0 ((set_other (by decide)).symm.trans h), fun h => hw1 ((set_other (by decide)).symm.trans h), fun h => hs0 ((set_other (by decide)).symm.trans h), fun h => hs1 ((set_other (by decide)).symm.trans h), (fun h => h0 ((set_other (by decide)).symm.trans h)), (fun h => h1 ((set_other (by decide)).symm.trans h)), (fun h => h2 ((set_other (by decide)).symm.trans h)), (fun h => h3 ((set_other (by decide)).symm.trans h)), fun _ => rfl, (fun h => h5 ((set_other (by decide)).symm.trans h)), (fun h => h6 ((set_other (by decide)).symm.trans h)), (fun h => h7 ((set_other (by decide)).symm.trans h)), (fun h => h8 ((set_other (by decide)).symm.trans h))⟩
        · have hq0 := ready_not' hi (by omega)
          have hq9 : L.getD 9 false = false := by
            cases hq : L.getD 9 false
            · rfl
            · exact absurd ((hD hq).2.2.1.symm.trans hq0) (by decide)
          obtain rfl := hs0 hq9
          refine wpOp_val (.int .i64 (p : Int)) rfl (by rfl) (by go_simp) ?_
          exact ⟨by simpa using hL, _, _, _, _, _, _, _, _, _, _, rfl, fun h => ⟨set_keep (hD ((set_other (by decide)).symm.trans h)).1, set_keep (hD ((set_other (by decide)).symm.trans h)).2.1, set_keep (hD ((set_other (by decide)).symm.trans h)).2.2.1, set_keep (hD ((set_other (by decide)).symm.trans h)).2.2.2⟩, fun h => hw0 ((set_other (by decide)).symm.trans h), fun h => hw1 ((set_other (by decide)).symm.trans h), fun h => hs0 ((set_other (by decide)).symm.trans h), fun h => hs1 ((set_other (by decide)).symm.trans h), (fun h => h0 ((set_other (by decide)).symm.trans h)), (fun h => h1 ((set_other (by decide)).symm.trans h)), (fun h => h2 ((set_other (by decide)).symm.trans h)), (fun h => h3 ((set_other (by decide)).symm.trans h)), (fun h => h4 ((set_other (by decide)).symm.trans h)), fun _ => rfl, (fun h => h6 ((set_other (by decide)).symm.trans h)), (fun h => h7 ((set_other (by decide)).symm.trans h)), (fun h => h8 ((set_other (by decide)).symm.trans h))⟩
        · obtain rfl := h4 (ready_dep hi 4 (by kernel_rfl))
          obtain rfl := h5 (ready_dep hi 5 (by kernel_rfl))
          refine wpOp_val (.slice (some ⟨w.heap.size, 0, none⟩) p n) rfl (by rfl) (by go_simp) ?_
          exact ⟨by simpa using hL, _, _, _, _, _, _, _, _, _, _, rfl, fun h => ⟨set_keep (hD ((set_other (by decide)).symm.trans h)).1, set_keep (hD ((set_other (by decide)).symm.trans h)).2.1, set_keep (hD ((set_other (by decide)).symm.trans h)).2.2.1, set_keep (hD ((set_other (by decide)).symm.trans h)).2.2.2⟩, fun h => hw0 ((set_other (by decide)).symm.trans h), fun h => hw1 ((set_other (by decide)).symm.trans h), fun h => hs0 ((set_other (by decide)).symm.trans h), fun h => hs1 ((set_other (by decide)).symm.trans h), (fun h => h0 ((set_other (by decide)).symm.trans h)), (fun h => h1 ((set_other (by decide)).symm.trans h)), (fun h => h2 ((set_other (by decide)).symm.trans h)), (fun h => h3 ((set_other (by decide)).symm.trans h)), (fun h => h4 ((set_other (by decide)).symm.trans h)), (fun h => h5 ((set_other (by decide)).symm.trans h)), fun _ => rfl, (fun h => h7 ((set_other (by decide)).symm.trans h)), (fun h => h8 ((set_other (by decide)).symm.trans h))⟩
        · obtain rfl := h3 (ready_dep hi 3 (by kernel_rfl))
          obtain rfl := h6 (ready_dep hi 6 (by kernel_rfl))
          have hwz := hw0 (ready_not' hi (by omega))
          subst hwz
          refine wpOp_wp rfl (by rfl) ?_
          refine of_step (c := Region.wanted _ (yielded #[] _) = true) (E := True) rfl (step_copy_splice rfl (.tmp 41) (.tmp 44) 29 29 rfl 3 Try.underlying29 info_i3 _ _ _ _ _ _ rfl rfl w.heap.size p (repL lo n p) 3 HK.out (List.replicate q (I lo)) HCQ.out hsrc hfit hone w.heap.size w (hBl.trans (Below.refl _ _).drew) (Nat.le_refl _) ?_)
          intro w4 k4' hb4
          have k4 : RepR lo n w.heap.size (p + q) w4 := by have := k4'.out; rw [repL_splice lo n p q hpq] at this; exact this
          rw [show goInt (List.replicate q (I lo)).length = .int .i64 (q : Int) by simp [goInt]; try rfl]
          exact ⟨by simpa using hL, _, _, _, _, _, _, _, _, _, _, rfl, fun h => ⟨set_keep (hD ((set_other (by decide)).symm.trans h)).1, set_keep (hD ((set_other (by decide)).symm.trans h)).2.1, set_keep (hD ((set_other (by decide)).symm.trans h)).2.2.1, set_keep (hD ((set_other (by decide)).symm.trans h)).2.2.2⟩, fun h => absurd ((set_same (by omega)).symm.trans h) (by decide), fun _ => ⟨k4, hb4⟩, fun h => hs0 ((set_other (by decide)).symm.trans h), fun h => hs1 ((set_other (by decide)).symm.trans h), (fun h => h0 ((set_other (by decide)).symm.trans h)), (fun h => h1 ((set_other (by decide)).symm.trans h)), (fun h => h2 ((set_other (by decide)).symm.trans h)), (fun h => h3 ((set_other (by decide)).symm.trans h)), (fun h => h4 ((set_other (by decide)).symm.trans h)), (fun h => h5 ((set_other (by decide)).symm.trans h)), (fun h => h6 ((set_other (by decide)).symm.trans h)), fun _ => rfl, (fun h => h8 ((set_other (by decide)).symm.trans h))⟩
        · obtain rfl := h0 (ready_dep hi 0 (by kernel_rfl))
          obtain rfl := h7 (ready_dep hi 7 (by kernel_rfl))
          refine wpOp_val (.int .i64 ((p : Int) + q)) rfl (by rfl) (by go_simp) ?_
          exact ⟨by simpa using hL, _, _, _, _, _, _, _, _, _, _, rfl, fun h => ⟨set_keep (hD ((set_other (by decide)).symm.trans h)).1, set_keep (hD ((set_other (by decide)).symm.trans h)).2.1, set_keep (hD ((set_other (by decide)).symm.trans h)).2.2.1, set_keep (hD ((set_other (by decide)).symm.trans h)).2.2.2⟩, fun h => hw0 ((set_other (by decide)).symm.trans h), fun h => hw1 ((set_other (by decide)).symm.trans h), fun h => hs0 ((set_other (by decide)).symm.trans h), fun h => absurd ((hD ((set_other (by decide)).symm.trans h)).2.2.2.symm.trans (ready_not' hi (by omega))) (by decide), (fun h => h0 ((set_other (by decide)).symm.trans h)), (fun h => h1 ((set_other (by decide)).symm.trans h)), (fun h => h2 ((set_other (by decide)).symm.trans h)), (fun h => h3 ((set_other (by decide)).symm.trans h)), (fun h => h4 ((set_other (by decide)).symm.trans h)), (fun h => h5 ((set_other (by decide)).symm.trans h)), (fun h => h6 ((set_other (by decide)).symm.trans h)), (fun h => h7 ((set_other (by decide)).symm.trans h)), fun _ => rfl⟩
        · obtain rfl := h8 (ready_dep hi 8 (by kernel_rfl))
          refine wpOp_val (.int .i64 ((p : Int) + q)) rfl (by rfl) (by go_simp) ?_
          exact ⟨by simpa using hL, _, _, _, _, _, _, _, _, _, _, rfl, fun _ => ⟨set_keep (ready_dep hi 0 (by kernel_rfl)), set_keep (ready_dep hi 2 (by kernel_rfl)), set_keep (ready_dep hi 5 (by kernel_rfl)), set_keep (ready_dep hi 8 (by kernel_rfl))⟩, fun h => hw0 ((set_other (by decide)).symm.trans h), fun h => hw1 ((set_other (by decide)).symm.trans h), fun h => absurd ((set_same (by omega)).symm.trans h) (by decide), fun _ => rfl, (fun h => h0 ((set_other (by decide)).symm.trans h)), (fun h => h1 ((set_other (by decide)).symm.trans h)), (fun h => h2 ((set_other (by decide)).symm.trans h)), (fun h => h3 ((set_other (by decide)).symm.trans h)), (fun h => h4 ((set_other (by decide)).symm.trans h)), (fun h => h5 ((set_other (by decide)).symm.trans h)), (fun h => h6 ((set_other (by decide)).symm.trans h)), (fun h => h7 ((set_other (by decide)).symm.trans h)), (fun h => h8 ((set_other (by decide)).symm.trans h))⟩
      · rintro L a w' ⟨hL, s8, v38, v39, v40, v41, v42, v43, v44, v45, v46, rfl, hD, hw0, hw1, hs0, hs1, h0, h1, h2, h3, h4, h5, h6, h7, h8⟩ hr
        have hall := all_listed hL (by kernel_rfl) hr
        obtain rfl := h0 (hall 0 (by decide))
        obtain rfl := h1 (hall 1 (by decide))
        obtain rfl := h2 (hall 2 (by decide))
        obtain rfl := h3 (hall 3 (by decide))
        obtain rfl := h4 (hall 4 (by decide))
        obtain rfl := h5 (hall 5 (by decide))
        obtain rfl := h6 (hall 6 (by decide))
        obtain rfl := h7 (hall 7 (by decide))
        obtain rfl := h8 (hall 8 (by decide))
        obtain rfl := hs1 (hall 9 (by decide))
        obtain ⟨hK', hB'⟩ := hw1 (hall 7 (by decide))
        clear hall hr hL hD hw0 hw1 hs0 hs1
        try dsimp only
        go_wp2
        go_roundw
        case rel => exact ⟨p + q, hpq, .inr (by omega), by simp, Lib.hid hK'⟩
        case measure => simp [intOf]; omega
    · obtain rfl : p = n := by omega
      go_wp2_with fail
      go_ret
      exact ⟨rfl, HK.out, hBl⟩
end Go.Proofs.Ytfjincdlenneaaa
/-
  CONTRACT: slices.Clone of a list of numbers: the same list in memory of its own.
-/
namespace Go.Proofs.Ytfjincdlenneaaa
open Go.RowKit Go.Shelf
set_option maxRecDepth 100000 in
set_option maxHeartbeats 1000000 in
theorem clone_any (ad : Addr) (c : Nat) (l : List Int) (w : World) (hx : IntsR w w.heap.size (some ad) l) (hl : l.length ≤ 1000) :
    Calls Try.prog 115 #[.slice (some ad) l.length c] w fun e w' => ∃ v, e = .returned v ∧ w'.ownsRow w.heap.size 3 1 v l.length (l.map I) ∧ Below w.heap.size w w' := by
  obtain ⟨i0, hi0, hz0, hz1, hz2⟩ := info_parts info_int
  have hb1 : Below w.heap.size w (w.alloc (.cells #[] 3)) := (Below.refl _ _).alloc (Nat.le_refl _) _
  have hg1 : (w.alloc (.cells #[] 3)).heap[w.heap.size]? = some (.cells (([] : List Int).map I).toArray 3 (0, 0)) := alloc_obj _ _ _ rfl
  have hown : (w.alloc (.cells #[] 3)).ownsRow w.heap.size 3 1 (.slice (some ⟨w.heap.size, 0, none⟩) 0 0) 0 [] := own_block (x := []) hg1 (Nat.le_refl _) (Nat.zero_le _)
  have hsrc : ∀ (j : Nat) (u : Value), (l.map I)[j]? = some u → (w.alloc (.cells #[] 3)).cell? (ad.add j) = some u := by
    intro j u hj
    obtain ⟨h1, e⟩ := List.getElem?_eq_some_iff.1 hj
    rw [List.length_map] at h1
    obtain ⟨ad', hA, hbl, hc⟩ := hx.at_ h1
    injection hA with hA
    have hA' := hA.symm
    subst hA'
    rw [← e, List.getElem_map, ← nth_lt h1]
    exact (hb1.cell (by rw [block_of_add]; exact hbl)).trans hc
  have hone : ∀ u ∈ l.map I, u.oneCell' = true := by intro u hu; obtain ⟨x, _, rfl⟩ := List.mem_map.1 hu; rfl
  have hrow := hown.lt
  have hnil := fun W => Lib.run_eql_slice_some_nil (P := Try.prog) W ad l.length c Try.underlying29
  go_enter Try.func115, Try.ntmps115
  go_wp2_with (at_builtin; go_must (refine wpList_append_own _ rfl _ _ 29 rfl w.heap.size 3 i0 (.int .i64 0) 1 8 Try.underlying29 hi0 hz0 hz1 hz2 rfl (by decide) _ 0 [] rfl hown ad l.length c (l.map I) rfl (by simp) hsrc hone ?c3 ?c4 ?c5 ?_); rotate_right; intro v' w4 hown' hgrow _)
  case c3 => unfold maxLen; omega
  case c4 => omega
  case c5 => simp
  rw [Nat.zero_add, List.nil_append] at hown'
  go_ret
  exact ⟨v', rfl, hown', hb1.grown hgrow (by simp) (fun j hj => (hrow j hj).1)⟩
end Go.Proofs.Ytfjincdlenneaaa
