/-
  LAYER 6, CONTRACT: edges (a function that calls itself). (Written by gen/gen_sred.py.)
-/
import Derived.Test.YtehoaenkkmmobaaSrC
namespace Go.Proofs.Ytehoaenkkmmobaa
open Go.RowKit Go.Shelf
theorem bcellS {w w1 : World} (h : Below w.heap.size w w1) : (∀ b o, b < w.heap.size → w1.cell? ⟨b, o, none⟩ = w.cell? ⟨b, o, none⟩) ∧ (∀ b o, b < w.heap.size → w1.frozen? ⟨b, o, none⟩ = w.frozen? ⟨b, o, none⟩) :=
  ⟨fun b o hb => h.cell (p := ⟨b, o, none⟩) hb, fun b o hb => h.frozen (p := ⟨b, o, none⟩) hb⟩
theorem set_keep {L : Array Bool} {i j : Nat} (h : L.getD i false = true) : (L.setIfInBounds j true).getD i false = true := by
  by_cases e : j = i
  · subst e
    refine set_same ?_
    rcases Nat.lt_or_ge j L.size with h1 | h1
    · exact h1
    · simp [Array.getElem?_eq_none h1] at h
  · exact (set_other e).trans h
/-- a list of the call's own -/
def OwnI (w : World) (base : Nat) (v : Value) (L : List Int) : Prop := w.ownsRow base 3 1 v L.length (L.map I)
theorem OwnI.call {w w' : World} {base : Nat} {v : Value} {L : List Int} (h : OwnI w base v L) (hb : Below w.heap.size w w') : OwnI w' base v L := own_call h hb
theorem OwnI.mono {w : World} {base base' : Nat} {v : Value} {L : List Int} (h : OwnI w base v L) (hb : base' ≤ base) : OwnI w base' v L :=
  ⟨h.1, h.2.imp id fun ⟨g, cap, cur, h1, h2, h3⟩ => ⟨g, cap, cur, h1, Nat.le_trans hb h2, h3⟩⟩
theorem OwnI.lt {w : World} {base : Nat} {v : Value} {L : List Int} (h : OwnI w base v L) : ∀ k, v.ownBlock = some k → base ≤ k ∧ k < w.heap.size := World.ownsRow.lt h
/-- one number of the call's own -/
def OneI (w : World) (base : Nat) (v : Value) (e : Nat) : Prop := ∃ blk, v = .slice (some ⟨blk, 0, none⟩) 1 1 ∧ base ≤ blk ∧ w.cell? ⟨blk, 0, none⟩ = some (I e) ∧ blk < w.heap.size
theorem OneI.call {w w' : World} {base : Nat} {v : Value} {e : Nat} (h : OneI w base v e) (hb : Below w.heap.size w w') : OneI w' base v e := by
  obtain ⟨blk, h1, h2, h3, h4⟩ := h
  exact ⟨blk, h1, h2, (hb.cell (p := ⟨blk, 0, none⟩) h4).trans h3, Nat.lt_of_lt_of_le h4 hb.size⟩
/-- a way that ends within so many links -/
def wayOk (W : Nat → Option Lk) (st N : Nat) : Nat → Nat → Prop
  | 0, x => st = x
  | f + 1, x => st = x ∨ ∃ l, W x = some l ∧ l.1 < N ∧ wayOk W st N f l.1
theorem edg_len (W : Nat → Option Lk) (st : Nat) : ∀ f x, (edg W st f x).length ≤ f := by
  intro f
  induction f with
  | zero => intro x; exact Nat.le_refl 0
  | succ f ih =>
    intro x
    rw [edg]
    split
    · exact Nat.zero_le _
    · rw [List.length_append, List.length_singleton]
      have := ih ((W x).getD (0, 0)).1
      omega
theorem edg_start (W : Nat → Option Lk) (x : Nat) (f : Nat) : edg W x f x = [] := by
  cases f with
  | zero => rfl
  | succ f => rw [edg, if_pos rfl]
theorem edg_go {W : Nat → Option Lk} {st x f : Nat} {l : Lk} (h : st ≠ x) (hl : W x = some l) : edg W st (f + 1) x = edg W st f l.1 ++ [l.2] := by rw [edg, if_neg h, hl]; rfl
set_option maxRecDepth 100000 in
set_option maxHeartbeats 4000000 in
theorem edges_any (B n N st : Nat) (W : Nat → Option Lk) (hN : N ≤ 300) (_hst : st < N) : ∀ (f x : Nat) (w : World), f ≤ 400 → x < N → wayOk W st N f x → WayR w B n W →
    Calls Try.prog 114 #[.map (some B), I st, I x] w fun e w' => ∃ v, e = .returned v ∧ OwnI w' w.heap.size v (numI (edg W st f x)) ∧ Below w.heap.size w w' := by
  intro f
  induction f with
  | zero =>
    intro x w hf hx hok hW
    have e : st = x := hok
    subst e
    have q : ((st : Int) == (st : Int)) = true := by simp
    go_enter Try.func114, Try.ntmps114
    go_wp2
    go_ret
    exact ⟨_, rfl, World.ownsRow_nil _ _ _ _, Below.refl _ _⟩
  | succ f ih =>
    intro x w hf hx hok hW
    by_cases e : st = x
    · subst e
      have q : ((st : Int) == (st : Int)) = true := by simp
      rw [edg_start]
      go_enter Try.func114, Try.ntmps114
      go_wp2
      go_ret
      exact ⟨_, rfl, World.ownsRow_nil _ _ _ _, Below.refl _ _⟩
    obtain ⟨l, hl, hlN, hok'⟩ := hok.resolve_left e
    rw [edg_go e hl]
    have q : ((st : Int) == (x : Int)) = false := by simp; omega
    obtain ⟨w1, hw1, hs1, y0, hb1⟩ := one_box w (.cells #[I l.1, I l.2] 71)
    have b0 : w1.cell? ⟨w.heap.size, 0, none⟩ = some (I l.1) := cell_of_row w1 _ 0 _ _ _ y0
    have b1 : w1.cell? ⟨w.heap.size, 1, none⟩ = some (I l.2) := cell_of_row w1 _ 1 _ _ _ y0
    have s0 : w.heap.size < w1.heap.size := by omega
    have hBw := hW.lt
    obtain ⟨L0, hL0⟩ : ∃ L0, L0 = edg W st f l.1 := ⟨_, rfl⟩
    have hLl : L0.length ≤ 400 := by rw [hL0]; exact Nat.le_trans (edg_len _ _ _ _) (by omega)
    have C1 : ∀ V, Below w1.heap.size w1 V → Calls Try.prog 114 #[.map (some B), I st, I l.1] V fun e w' => ∃ v, e = .returned v ∧ OwnI w' V.heap.size v (numI L0) ∧ Below V.heap.size V w' := fun V hV => by
      rw [hL0]
      exact ih l.1 V (by omega) hlN hok' ((hW.below hb1 hBw).below hV (by omega))
    rw [← hL0]
    obtain ⟨fm, hf1, hf2⟩ := hW
    have hfx := hf2 x
    rw [hl] at hfx
    have hr : (fm (I x)).getD zeroL = lkV l := by rw [hfx]; rfl
    have hky := keyAtI x (by omega)
    obtain ⟨i0, hi0, hz0, hz1, hz2⟩ := info_parts info_int
    clear hok hok' hf2 hfx hL0 y0 e ih hl
    go_enter Try.func114, Try.ntmps114
    go_upto_region 4 with (at_lookup; refine wpList_g_at rfl _ _ 94 rfl 3 71 keyInt Try.underlying94 (zeroLk _) rfl hf1 (I x) rfl hky (lkV l) hr ?_)
    rw [← hw1]
    clear hw1
    refine wp_region_inv (by kernel_rfl) (fun L a w' => L.size = 10 ∧ ∃ u14 u15 u16 u17 u18 u19 u20 u21 u22 u6 : Value, a = { tmps := #[.map (some B), I st, I x, undef, undef, undef, u6, .pointer (some ⟨w.heap.size, 0, none⟩), I st, I x, .bool false, .map (some B), I x, lkV l, u14, u15, u16, u17, u18, u19, u20, u21, u22], defers := [] } ∧ Below w1.heap.size w1 w' ∧ (L.getD 0 false = true → u14 = .map (some B)) ∧ (L.getD 1 false = true → u15 = I st) ∧ (L.getD 2 false = true → u16 = .pointer (some ⟨w.heap.size, 0, none⟩)) ∧ (L.getD 3 false = true → u17 = I l.1) ∧ (L.getD 4 false = true → L.getD 8 false = false → OwnI w' w1.heap.size u18 (numI L0)) ∧ (L.getD 5 false = true → u19 = .pointer (some ⟨w.heap.size, 1, none⟩)) ∧ (L.getD 6 false = true → u20 = I l.2) ∧ (L.getD 7 false = true → L.getD 8 false = false → OneI w' w1.heap.size u21 l.2) ∧ (L.getD 8 false = true → OwnI w' w1.heap.size u22 (numI (L0 ++ [l.2]))) ∧ (L.getD 9 false = true → L.getD 8 false = true ∧ OwnI w' w1.heap.size u6 (numI (L0 ++ [l.2])))) ?_ ?_ ?_
    · exact ⟨by simp, _, _, _, _, _, _, _, _, _, _, rfl, (Below.refl _ _).drew, by simp, by simp, by simp, by simp, by simp, by simp, by simp, by simp, by simp, by simp⟩
    · rintro i L a w' ⟨hL, u14, u15, u16, u17, u18, u19, u20, u21, u22, u6, rfl, hbw', h0, h1, h2, h3, h4, h5, h6, h7, h8, h9⟩ hi
      have hsz : w1.heap.size ≤ w'.heap.size := hbw'.size
      have hcases : i = 0 ∨ i = 1 ∨ i = 2 ∨ i = 3 ∨ i = 4 ∨ i = 5 ∨ i = 6 ∨ i = 7 ∨ i = 8 ∨ i = 9 := by
        have : i < 10 := ready_lt hi
        omega
      have hc' := bcellS hbw'
      rcases hcases with rfl | rfl | rfl | rfl | rfl | rfl | rfl | rfl | rfl | rfl
      · refine wpOp_val (.map (some B)) rfl (by rfl) (by go_simp) ?_
        exact ⟨by simpa using hL, _, _, _, _, _, _, _, _, _, _, rfl, hbw', fun _ => rfl, (fun h => (h1 ((set_other (by decide)).symm.trans h))), (fun h => (h2 ((set_other (by decide)).symm.trans h))), (fun h => (h3 ((set_other (by decide)).symm.trans h))), (fun h h' => (h4 ((set_other (by decide)).symm.trans h) ((set_other (by decide)).symm.trans h'))), (fun h => (h5 ((set_other (by decide)).symm.trans h))), (fun h => (h6 ((set_other (by decide)).symm.trans h))), (fun h h' => (h7 ((set_other (by decide)).symm.trans h) ((set_other (by decide)).symm.trans h'))), (fun h => (h8 ((set_other (by decide)).symm.trans h))), (fun h => ⟨set_keep (h9 ((set_other (by decide)).symm.trans h)).1, (h9 ((set_other (by decide)).symm.trans h)).2⟩)⟩
      · refine wpOp_val (I st) rfl (by rfl) (by go_simp) ?_
        exact ⟨by simpa using hL, _, _, _, _, _, _, _, _, _, _, rfl, hbw', (fun h => (h0 ((set_other (by decide)).symm.trans h))), fun _ => rfl, (fun h => (h2 ((set_other (by decide)).symm.trans h))), (fun h => (h3 ((set_other (by decide)).symm.trans h))), (fun h h' => (h4 ((set_other (by decide)).symm.trans h) ((set_other (by decide)).symm.trans h'))), (fun h => (h5 ((set_other (by decide)).symm.trans h))), (fun h => (h6 ((set_other (by decide)).symm.trans h))), (fun h h' => (h7 ((set_other (by decide)).symm.trans h) ((set_other (by decide)).symm.trans h'))), (fun h => (h8 ((set_other (by decide)).symm.trans h))), (fun h => ⟨set_keep (h9 ((set_other (by decide)).symm.trans h)).1, (h9 ((set_other (by decide)).symm.trans h)).2⟩)⟩
      · refine wpOp_val (.pointer (some ⟨w.heap.size, 0, none⟩)) rfl (by rfl) (by go_simp) ?_
        exact ⟨by simpa using hL, _, _, _, _, _, _, _, _, _, _, rfl, hbw', (fun h => (h0 ((set_other (by decide)).symm.trans h))), (fun h => (h1 ((set_other (by decide)).symm.trans h))), fun _ => rfl, (fun h => (h3 ((set_other (by decide)).symm.trans h))), (fun h h' => (h4 ((set_other (by decide)).symm.trans h) ((set_other (by decide)).symm.trans h'))), (fun h => (h5 ((set_other (by decide)).symm.trans h))), (fun h => (h6 ((set_other (by decide)).symm.trans h))), (fun h h' => (h7 ((set_other (by decide)).symm.trans h) ((set_other (by decide)).symm.trans h'))), (fun h => (h8 ((set_other (by decide)).symm.trans h))), (fun h => ⟨set_keep (h9 ((set_other (by decide)).symm.trans h)).1, (h9 ((set_other (by decide)).symm.trans h)).2⟩)⟩
      · obtain rfl := h2 (ready_dep hi 2 (by kernel_rfl))
        refine wpOp_val (I l.1) rfl (by rfl) (by go_simp) ?_
        exact ⟨by simpa using hL, _, _, _, _, _, _, _, _, _, _, rfl, hbw', (fun h => (h0 ((set_other (by decide)).symm.trans h))), (fun h => (h1 ((set_other (by decide)).symm.trans h))), (fun h => (h2 ((set_other (by decide)).symm.trans h))), fun _ => rfl, (fun h h' => (h4 ((set_other (by decide)).symm.trans h) ((set_other (by decide)).symm.trans h'))), (fun h => (h5 ((set_other (by decide)).symm.trans h))), (fun h => (h6 ((set_other (by decide)).symm.trans h))), (fun h h' => (h7 ((set_other (by decide)).symm.trans h) ((set_other (by decide)).symm.trans h'))), (fun h => (h8 ((set_other (by decide)).symm.trans h))), (fun h => ⟨set_keep (h9 ((set_other (by decide)).symm.trans h)).1, (h9 ((set_other (by decide)).symm.trans h)).2⟩)⟩
      · obtain rfl := h0 (ready_dep hi 0 (by kernel_rfl))
        obtain rfl := h1 (ready_dep hi 1 (by kernel_rfl))
        obtain rfl := h3 (ready_dep hi 3 (by kernel_rfl))
        refine wpOp_wp rfl (by rfl) (wp_call_fns (vs := #[.map (some B), I st, I l.1]) rfl (by simp [Act.eval]) (enters_of Try.func114 (by kernel_rfl) rfl) (((C1 w' hbw')).mono ?_))
        rintro e w2 ⟨v, rfl, hv, hb⟩
        exact ⟨by simpa using hL, _, _, _, _, _, _, _, _, _, _, rfl, (hbw'.trans (hb.mono hbw'.size)), (fun h => (h0 ((set_other (by decide)).symm.trans h))), (fun h => (h1 ((set_other (by decide)).symm.trans h))), (fun h => (h2 ((set_other (by decide)).symm.trans h))), (fun h => (h3 ((set_other (by decide)).symm.trans h))), fun _ _ => hv.mono hsz, (fun h => (h5 ((set_other (by decide)).symm.trans h))), (fun h => (h6 ((set_other (by decide)).symm.trans h))), (fun h h' => (h7 ((set_other (by decide)).symm.trans h) ((set_other (by decide)).symm.trans h')).call hb), (fun h => (h8 ((set_other (by decide)).symm.trans h)).call hb), (fun h => ⟨set_keep (h9 ((set_other (by decide)).symm.trans h)).1, (h9 ((set_other (by decide)).symm.trans h)).2.call hb⟩)⟩
      · refine wpOp_val (.pointer (some ⟨w.heap.size, 1, none⟩)) rfl (by rfl) (by go_simp) ?_
        exact ⟨by simpa using hL, _, _, _, _, _, _, _, _, _, _, rfl, hbw', (fun h => (h0 ((set_other (by decide)).symm.trans h))), (fun h => (h1 ((set_other (by decide)).symm.trans h))), (fun h => (h2 ((set_other (by decide)).symm.trans h))), (fun h => (h3 ((set_other (by decide)).symm.trans h))), (fun h h' => (h4 ((set_other (by decide)).symm.trans h) ((set_other (by decide)).symm.trans h'))), fun _ => rfl, (fun h => (h6 ((set_other (by decide)).symm.trans h))), (fun h h' => (h7 ((set_other (by decide)).symm.trans h) ((set_other (by decide)).symm.trans h'))), (fun h => (h8 ((set_other (by decide)).symm.trans h))), (fun h => ⟨set_keep (h9 ((set_other (by decide)).symm.trans h)).1, (h9 ((set_other (by decide)).symm.trans h)).2⟩)⟩
      · obtain rfl := h5 (ready_dep hi 5 (by kernel_rfl))
        refine wpOp_val (I l.2) rfl (by rfl) (by go_simp) ?_
        exact ⟨by simpa using hL, _, _, _, _, _, _, _, _, _, _, rfl, hbw', (fun h => (h0 ((set_other (by decide)).symm.trans h))), (fun h => (h1 ((set_other (by decide)).symm.trans h))), (fun h => (h2 ((set_other (by decide)).symm.trans h))), (fun h => (h3 ((set_other (by decide)).symm.trans h))), (fun h h' => (h4 ((set_other (by decide)).symm.trans h) ((set_other (by decide)).symm.trans h'))), (fun h => (h5 ((set_other (by decide)).symm.trans h))), fun _ => rfl, (fun h h' => (h7 ((set_other (by decide)).symm.trans h) ((set_other (by decide)).symm.trans h'))), (fun h => (h8 ((set_other (by decide)).symm.trans h))), (fun h => ⟨set_keep (h9 ((set_other (by decide)).symm.trans h)).1, (h9 ((set_other (by decide)).symm.trans h)).2⟩)⟩
      · obtain rfl := h6 (ready_dep hi 6 (by kernel_rfl))
        refine wpOp_mem (.slice (some ⟨w'.heap.size, 0, none⟩) 1 1) (w'.alloc (.cells #[I l.2] 3)) rfl (by rfl) (by go_simp) ?_
        exact ⟨by simpa using hL, _, _, _, _, _, _, _, _, _, _, rfl, (hbw'.alloc hsz _), (fun h => (h0 ((set_other (by decide)).symm.trans h))), (fun h => (h1 ((set_other (by decide)).symm.trans h))), (fun h => (h2 ((set_other (by decide)).symm.trans h))), (fun h => (h3 ((set_other (by decide)).symm.trans h))), (fun h h' => (h4 ((set_other (by decide)).symm.trans h) ((set_other (by decide)).symm.trans h')).call ((Below.refl _ _).alloc (Nat.le_refl _) _)), (fun h => (h5 ((set_other (by decide)).symm.trans h))), (fun h => (h6 ((set_other (by decide)).symm.trans h))), fun _ _ => ⟨_, rfl, hsz, alloc_cell _ _ _ 0, by simp⟩, (fun h => (h8 ((set_other (by decide)).symm.trans h)).call ((Below.refl _ _).alloc (Nat.le_refl _) _)), (fun h => ⟨set_keep (h9 ((set_other (by decide)).symm.trans h)).1, (h9 ((set_other (by decide)).symm.trans h)).2.call ((Below.refl _ _).alloc (Nat.le_refl _) _)⟩)⟩
      · have hn8 := ready_not' hi (by omega)
        have hA := h4 (ready_dep hi 4 (by kernel_rfl)) hn8
        obtain ⟨blk, rfl, hbk, hbc, hbl⟩ := h7 (ready_dep hi 7 (by kernel_rfl)) hn8
        have hrow := hA.lt
        refine wpOp_wp rfl (by rfl) (wp_append_own _ (.tmp 18) (.tmp 21) 26 rfl w1.heap.size 3 i0 (.int .i64 0) 1 8 Try.underlying26 hi0 hz0 hz1 hz2 rfl (by decide) u18 _ _ rfl hA ⟨blk, 0, none⟩ 1 1 [I l.2] rfl rfl ?c1 ?c2 ?c3 ?c4 hsz ?_)
        case c1 =>
          intro j u hj
          match j, hj with
          | 0, hj => simp at hj; subst hj; simpa [Addr.add] using hbc
        case c2 => intro u hu; simp at hu; subst hu; rfl
        case c3 => rw [numI_length]; unfold maxLen; omega
        case c4 => rw [numI_length]; omega
        intro v' w2 hown' hgrow _
        have hB2 := hbw'.grown hgrow hsz (fun j hj => (hrow j hj).1)
        exact ⟨by simpa using hL, _, _, _, _, _, _, _, _, _, _, rfl, hB2, (fun h => (h0 ((set_other (by decide)).symm.trans h))), (fun h => (h1 ((set_other (by decide)).symm.trans h))), (fun h => (h2 ((set_other (by decide)).symm.trans h))), (fun h => (h3 ((set_other (by decide)).symm.trans h))), (fun _ h' => by rw [set_same (by omega)] at h'; cases h'), (fun h => (h5 ((set_other (by decide)).symm.trans h))), (fun h => (h6 ((set_other (by decide)).symm.trans h))), (fun _ h' => by rw [set_same (by omega)] at h'; cases h'), fun _ => by rw [OwnI, numI_snoc, List.map_append, List.length_append]; exact hown', (fun h => absurd (h9 ((set_other (by decide)).symm.trans h)).1 (by rw [hn8]; simp))⟩
      · have g8 := h8 (ready_dep hi 8 (by kernel_rfl))
        refine wpOp_val (u22) rfl (by rfl) (by go_simp) ?_
        exact ⟨by simpa using hL, _, _, _, _, _, _, _, _, _, _, rfl, hbw', (fun h => (h0 ((set_other (by decide)).symm.trans h))), (fun h => (h1 ((set_other (by decide)).symm.trans h))), (fun h => (h2 ((set_other (by decide)).symm.trans h))), (fun h => (h3 ((set_other (by decide)).symm.trans h))), (fun h h' => (h4 ((set_other (by decide)).symm.trans h) ((set_other (by decide)).symm.trans h'))), (fun h => (h5 ((set_other (by decide)).symm.trans h))), (fun h => (h6 ((set_other (by decide)).symm.trans h))), (fun h h' => (h7 ((set_other (by decide)).symm.trans h) ((set_other (by decide)).symm.trans h'))), (fun h => (h8 ((set_other (by decide)).symm.trans h))), fun _ => ⟨set_keep (ready_dep hi 8 (by kernel_rfl)), g8⟩⟩
    · rintro L a w' ⟨hL, u14, u15, u16, u17, u18, u19, u20, u21, u22, u6, rfl, hbw', h0, h1, h2, h3, h4, h5, h6, h7, h8, h9⟩ hr
      have hall := all_listed hL (by kernel_rfl) hr
      obtain rfl := h0 (hall 0 (by decide))
      obtain rfl := h1 (hall 1 (by decide))
      obtain rfl := h2 (hall 2 (by decide))
      obtain rfl := h3 (hall 3 (by decide))
      clear h4
      obtain rfl := h5 (hall 5 (by decide))
      obtain rfl := h6 (hall 6 (by decide))
      clear h7
      have g8 := h8 (hall 8 (by decide))
      have g9 := h9 (hall 9 (by decide))
      clear hall hr hL
      try dsimp only
      go_wp2_with fail
      go_ret
      exact ⟨_, rfl, g9.2.mono (by omega), hb1.trans (hbw'.mono (by omega))⟩

end Go.Proofs.Ytehoaenkkmmobaa
