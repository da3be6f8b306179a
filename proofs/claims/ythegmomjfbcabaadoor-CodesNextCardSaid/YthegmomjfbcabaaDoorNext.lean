/-
  CONTRACT: codes.Next.
-/
import Derived.Test.YthegmomjfbcabaaDoorLeaves
import Derived.Test.YthegmomjfbcabaaDoorRNext
namespace Go.Proofs.YthegmomjfbcabaaDoor
open Go.RowKit Go.Shelf
attribute [local go_sem] Oper.semAt_some
/-- the cells of rows, one row behind the other -/
def rowL (x : List Int) : List Value := [I (nth x 0), I (nth x 1), I (nth x 2), I (nth x 3)]
def rowsC (xs : List (List Int)) : List Value := xs.flatMap rowL
theorem rowsC_length (xs : List (List Int)) : (rowsC xs).length = xs.length * 4 := by
  induction xs with
  | nil => rfl
  | cons t ts ih => rw [rowsC, List.flatMap_cons, List.length_append, ← rowsC, ih, List.length_cons]; simp only [rowL, List.length_cons, List.length_nil]; omega
theorem rowsC_at (xs : List (List Int)) : ∀ (j : Nat) (hj : j < xs.length) (i : Nat), i < 4 → (rowsC xs)[j * 4 + i]? = some (I (nth xs[j] i)) := by
  induction xs with
  | nil => intro j hj; simp at hj
  | cons t ts ih =>
    intro j hj i hi
    rw [rowsC, List.flatMap_cons, ← rowsC]
    cases j with
    | zero =>
      rw [Nat.zero_mul, Nat.zero_add, List.getElem?_append_left (by simp only [rowL, List.length_cons, List.length_nil]; omega)]
      match i, hi with
      | 0, _ => rfl
      | 1, _ => rfl
      | 2, _ => rfl
      | 3, _ => rfl
    | succ j =>
      rw [List.getElem?_append_right (by simp only [rowL, List.length_cons, List.length_nil]; omega), show (j + 1) * 4 + i - (rowL t).length = j * 4 + i by simp only [rowL, List.length_cons, List.length_nil]; omega, ih j (by simpa using hj) i hi]
      rfl
theorem rowsC_snoc (xs : List (List Int)) (x : List Int) : rowsC (xs ++ [x]) = rowsC xs ++ rowL x := by simp [rowsC]
theorem rowsC_one (xs : List (List Int)) : ∀ u ∈ rowsC xs, u.oneCell' = true := by
  intro u hu
  obtain ⟨t, -, h⟩ := List.mem_flatMap.1 hu
  simp only [rowL, List.mem_cons, List.not_mem_nil, or_false] at h
  rcases h with rfl | rfl | rfl | rfl <;> rfl
theorem info_row : (Tryd.prog.info? 87).map (fun i => (i.zero, i.size, i.bytes)) = some (some (.agg #[I 0, I 0, I 0, I 0]), 4, 32) := by kernel_rfl
theorem own_rows {w : World} {base : Nat} {v : Value} {xs : List (List Int)} (h : w.ownsRow base 87 4 v xs.length (rowsC xs)) :
    ∃ (A : Option Addr) (c : Nat), v = .slice A xs.length c ∧ RowsR w w.heap.size A xs := by
  rcases h.2 with ⟨rfl, h0⟩ | ⟨g, cap, cur, rfl, _, hh, h1, h2, h3, h4⟩
  · exact ⟨none, 0, by simp [h0], fun hh => absurd hh (by simp [h0])⟩
  · refine ⟨some ⟨g, 0, none⟩, cap, by simp, fun _ => ⟨g, 0, rfl, (Array.getElem?_eq_some_iff.1 hh).1, fun j hj i hi => ?_⟩⟩
    have h5 := rowsC_at xs j hj i hi
    rw [← h4, List.getElem?_take_of_lt (by have := Nat.mul_le_mul_right 4 (Nat.succ_le_of_lt hj); omega)] at h5
    rw [show 0 + j * 4 + i = j * 4 + i by omega]
    have hh' : w.heap[g]? = some (.cells cur.toList.toArray 87 (0, 0)) := by simpa using hh
    rw [cell_of_row w g _ _ _ _ hh']
    simpa using h5
theorem own_rows2 {w : World} {base : Nat} {v : Value} {xs : List (List Int)} (h : w.ownsRow base 87 4 v xs.length (rowsC xs)) (h0 : 0 < xs.length) :
    ∃ (g c : Nat), v = .slice (some ⟨g, 0, none⟩) xs.length c ∧ xs.length ≤ c ∧ base ≤ g ∧ g < w.heap.size ∧ ∀ j (hj : j < xs.length) (i : Nat), i < 4 → w.cell? ⟨g, j * 4 + i, none⟩ = some (I (nth xs[j] i)) := by
  rcases h.2 with ⟨rfl, h0'⟩ | ⟨g, cap, cur, rfl, hb, hh, h1, h2, h3, h4⟩
  · omega
  · refine ⟨g, cap, rfl, h1, hb, (Array.getElem?_eq_some_iff.1 hh).1, fun j hj i hi => ?_⟩
    have h5 := rowsC_at xs j hj i hi
    rw [← h4, List.getElem?_take_of_lt (by have := Nat.mul_le_mul_right 4 (Nat.succ_le_of_lt hj); omega)] at h5
    have hh' : w.heap[g]? = some (.cells cur.toList.toArray 87 (0, 0)) := by simpa using hh
    rw [cell_of_row w g _ _ _ _ hh']
    simpa using h5
theorem row4n {w : World} {g : Nat} {t : TypeId} {y : List Int} (h : w.heap[g]? = some (.cells (rowL y).toArray t (0, 0))) (x : List Int) :
    ∃ w', w' = (((w.setCell ⟨g, 0, none⟩ (I (nth x 0))).setCell ⟨g, 1, none⟩ (I (nth x 1))).setCell ⟨g, 2, none⟩ (I (nth x 2))).setCell ⟨g, 3, none⟩ (I (nth x 3)) ∧ w'.heap[g]? = some (.cells (rowL x).toArray t (0, 0)) ∧ w'.heap.size = w.heap.size ∧ (∀ b, b ≠ g → w'.heap[b]? = w.heap[b]?) ∧ ∀ B, B ≤ g → Below B w w' := by
  refine ⟨_, rfl, row_set (row_set (row_set (row_set h 0 _) 1 _) 2 _) 3 _, by simp [World.setCell], fun b hb => ?_, fun B hB => ((((Below.refl _ _).setCell (p := ⟨g, 0, none⟩) hB _).setCell (p := ⟨g, 1, none⟩) hB _).setCell (p := ⟨g, 2, none⟩) hB _).setCell (p := ⟨g, 3, none⟩) hB _⟩
  exact (Below.heap_setCell _ _ _ _ hb).trans ((Below.heap_setCell _ _ _ _ hb).trans ((Below.heap_setCell _ _ _ _ hb).trans (Below.heap_setCell _ _ _ _ hb)))
/-- the world of the search for the best guess, when j guesses behind the first have been looked at -/
structure NxW (W T2 B wz : Nat) (R : List (List Int)) (X : World) (j : Nat) (wr : World) : Prop where
  row : wr.heap[B]? = some (.cells (rowL (R.getD (bst (lft W R) j) [])).toArray 87 (0, 0))
  num : wr.heap[T2]? = some (.cells #[I (lft W R (bst (lft W R) j) : Nat)] 3 (0, 0))
  same : ∀ b, b < B → b ≠ T2 → wr.heap[b]? = X.heap[b]?
  size : B < wr.heap.size
  below : Below wz X wr
theorem NxW.call {W T2 B wz : Nat} {R : List (List Int)} {X wr w7 : World} {j : Nat} (h : NxW W T2 B wz R X j wr) (hb : Below wr.heap.size wr w7) (hT : T2 < B) (hz : wz ≤ B) : NxW W T2 B wz R X j w7 :=
  ⟨(hb.block _ h.size).trans h.row, (hb.block _ (Nat.lt_trans hT h.size)).trans h.num, fun b h1 h2 => (hb.block _ (Nat.lt_trans h1 h.size)).trans (h.same b h1 h2), Nat.lt_of_lt_of_le h.size hb.size, h.below.trans (hb.mono (Nat.le_trans hz (Nat.le_of_lt h.size)))⟩
theorem NxW.no {W T2 B wz : Nat} {R : List (List Int)} {X wr : World} {j : Nat} (h : NxW W T2 B wz R X j wr) (e : bst (lft W R) (j + 1) = bst (lft W R) j) : NxW W T2 B wz R X (j + 1) wr :=
  ⟨by rw [e]; exact h.row, by rw [e]; exact h.num, h.same, h.size, h.below⟩
theorem NxW.yes {W T2 B wz : Nat} {R : List (List Int)} {X w7 w8 : World} {j q : Nat} {x : List Int} (h : NxW W T2 B wz R X j w7) (e : bst (lft W R) (j + 1) = j + 1) (hx : R.getD (j + 1) [] = x) (hq : lft W R (j + 1) = q) (hT : T2 < B) (hz : wz ≤ T2)
    (h8 : w8.heap[B]? = some (.cells (rowL x).toArray 87 (0, 0))) (s8 : w8.heap.size = w7.heap.size) (o8 : ∀ b, b ≠ B → w8.heap[b]? = w7.heap[b]?) (b8 : ∀ C, C ≤ B → Below C w7 w8) : NxW W T2 B wz R X (j + 1) (w8.setCell ⟨T2, 0, none⟩ (I (q : Nat))) := by
  have o9 : ∀ b, b ≠ T2 → (w8.setCell ⟨T2, 0, none⟩ (I (q : Nat))).heap[b]? = w8.heap[b]? := fun b hb => Below.heap_setCell _ _ _ _ hb
  refine ⟨?_, ?_, fun b h1 h2 => (o9 b h2).trans ((o8 b (by omega)).trans (h.same b h1 h2)), by have := h.size; simp [World.setCell]; omega, h.below.trans ((b8 wz (by omega)).trans ((Below.refl _ _).setCell (p := ⟨T2, 0, none⟩) hz _))⟩
  · rw [e, hx]; exact (o9 B (by omega)).trans h8
  · rw [e, hq]; exact row_set ((o8 T2 (by omega)).trans h.num) 0 _
theorem five_boxes (w : World) (a b c d e : Obj) : ∃ W, W = ((((w.alloc a).alloc b).alloc c).alloc d).alloc e ∧ W.heap.size = w.heap.size + 5 ∧ W.heap[w.heap.size]? = some a ∧ W.heap[w.heap.size + 1]? = some b ∧ W.heap[w.heap.size + 1 + 1]? = some c ∧
    W.heap[w.heap.size + 1 + 1 + 1]? = some d ∧ W.heap[w.heap.size + 1 + 1 + 1 + 1]? = some e ∧ Below w.heap.size w W := by
  refine ⟨_, rfl, by simp, ?_, ?_, ?_, ?_, alloc_obj _ _ _ (by simp <;> omega), ?_⟩
  · exact (Below.heap_alloc _ _ _ (by simp <;> omega)).trans ((Below.heap_alloc _ _ _ (by simp <;> omega)).trans ((Below.heap_alloc _ _ _ (by simp <;> omega)).trans ((Below.heap_alloc _ _ _ (by simp <;> omega)).trans (alloc_obj _ _ _ rfl))))
  · exact (Below.heap_alloc _ _ _ (by simp <;> omega)).trans ((Below.heap_alloc _ _ _ (by simp <;> omega)).trans ((Below.heap_alloc _ _ _ (by simp <;> omega)).trans (alloc_obj _ _ _ (by simp <;> omega))))
  · exact (Below.heap_alloc _ _ _ (by simp <;> omega)).trans ((Below.heap_alloc _ _ _ (by simp <;> omega)).trans (alloc_obj _ _ _ (by simp <;> omega)))
  · exact (Below.heap_alloc _ _ _ (by simp <;> omega)).trans (alloc_obj _ _ _ (by simp <;> omega))
  · exact ((((Below.refl _ _).alloc (Nat.le_refl _) _).alloc (by simp <;> omega) _).alloc (by simp <;> omega) _).alloc (by simp <;> omega) _ |>.alloc (by simp <;> omega) _

set_option maxRecDepth 100000 in
set_option maxHeartbeats 4000000 in
theorem Next_any (W S : Int) (A : Option Addr) (c : Nat) (cs : List Cl) (w : World) (hT : Tab w) (hx : ClsR w w.heap.size A cs) (hl : cs.length ≤ maxLen) :
    Calls Tryd.prog 51 #[lockV W S, .slice A cs.length c] w fun e w' => ∃ A' c', e = .returned (.tuple #[.slice A' (nxG W S cs).length c', I (nxN W S cs), I (nxE W S cs)]) ∧ IntsR w' w'.heap.size A' (nxG W S cs) ∧ (nxG W S cs).length ≤ maxLen ∧ Below w.heap.size w w' := by
  refine (callsIn_wide (n := 20)).1 (callsIn_of_wp_marks Tryd.func51 rfl trivial ?_ rfl)
  rw [wpIn_wide]
  simp only [Tryd.ntmps51, List.size_toArray, List.length_cons, List.length_nil, Nat.reduceAdd, Nat.reduceSub, Array.replicate_succ, Array.replicate_zero, List.push_toArray, List.append_toArray, List.nil_append, List.cons_append]
  go_upto_region 2 with fail
  obtain ⟨w1, hw1, z1, y0, y1, y2, y3, y4, hb1⟩ := five_boxes w (.cells #[I W, I S] 23) (.cells #[.slice none 0 0] 24) (.cells #[I 0] 3) (.cells #[I 0] 27) (.cells #[I W, I S] 78)
  rw [← hw1]
  have l0 : w1.cell? ⟨w.heap.size + 1 + 1 + 1 + 1, 0, none⟩ = some (I W) := cell_of_row w1 _ 0 _ _ _ y4
  have l1 : w1.cell? ⟨w.heap.size + 1 + 1 + 1 + 1, 1, none⟩ = some (I S) := cell_of_row w1 _ 1 _ _ _ y4
  have s0 : w.heap.size + 1 + 1 + 1 + 1 < w1.heap.size := by omega
  have hx1 := cls_call hb1 hx
  have hT1 := hT.below hb1
  have Y1 := Lib.hid y1
  have Y2 := Lib.hid y2
  have Y3 := Lib.hid y3
  have Y4 := Lib.hid y4
  clear hw1 hx hT y0 y1 y2 y3 y4 z1
  go_cut [8] from 15 to 67 (fun s8 wx => s8 = I (cntE W S cs) ∧ KeptS w1 wx)
  case first =>
    go_region_held3 (fun w' => Below w1.heap.size w1 w' ∧ (∀ b o, b < w1.heap.size → w'.cell? ⟨b, o, none⟩ = w1.cell? ⟨b, o, none⟩))
      (first | exact keptS_drew _ | exact keptS_call (by assumption) hb | exact keptS_alloc (by assumption) _ | assumption)
      (first
        | (go_at_call 61; refine (lockCheck_any _ _ _).mono ?_; rintro e w' ⟨rfl, hb⟩)
        | (go_at_call 73; go_must (refine (checkClues_any _ _ _ _ _ cs _ ?_ ?_ hl).mono ?_); go_must (exact hT1.below (And.left (by assumption : KeptS w1 _))); go_must (exact cls_call (And.left (by assumption : KeptS w1 _)) hx1); rintro e w' ⟨rfl, hb⟩)
        | (go_at_call 63; go_must (refine (first_any _ _ [lockErr W S, cluesErr W S 20 cs] _ ?_ ?_).mono ?_); go_must (exact ints_new _ [lockErr W S, cluesErr W S 20 cs] _); go_must (simp [maxLen]); rintro e w' ⟨rfl, rfl⟩))
    all_goals
      go_wp2_with fail
      go_meet
      exact ⟨rfl, by assumption⟩
  case rest =>
    obtain ⟨rfl, hk⟩ := hcut
    obtain ⟨wq, hwq⟩ : ∃ wq : World, wq = wc := ⟨_, rfl⟩
    subst hwq
    have hkb := hk.1
    have hx2 := cls_call hkb hx1
    have hbc : Below w.heap.size w wq := hb1.trans (hkb.mono (by omega))
    have t0 : w.heap.size + 1 + 1 + 1 + 1 < wq.heap.size := by have := hkb.size; omega
    have y1 := (hkb.block _ (by omega)).trans Y1.out
    have y2 := (hkb.block _ (by omega)).trans Y2.out
    have y3 := (hkb.block _ (by omega)).trans Y3.out
    have y4 := (hkb.block _ (by omega)).trans Y4.out
    clear hk hkb hx1 hT1 l0 l1 Y1 Y2 Y3 Y4 s0
    have Y1 := Lib.hid y1
    have Y2 := Lib.hid y2
    have Y3 := Lib.hid y3
    have Y4 := Lib.hid y4
    clear y1 y2 y3 y4
    by_cases he : cntE W S cs = 0
    · have hb0 : (cntE W S cs != 0) = false := by simp [he]
      obtain ⟨W', S', rfl, rfl, hW, hW4, hS, hS10, hC⟩ := cntE_nat he
      have HE := Lib.hid he
      clear he
      have l0 : wq.cell? ⟨w.heap.size + 1 + 1 + 1 + 1, 0, none⟩ = some (I W') := cell_of_row wq _ 0 _ _ _ Y4.out
      have l1 : wq.cell? ⟨w.heap.size + 1 + 1 + 1 + 1, 1, none⟩ = some (I S') := cell_of_row wq _ 1 _ _ _ Y4.out
      go_wp2_with fail
      refine (readings_any _ _ _ _ _ _).mono ?_
      rintro e w' ⟨rfl, rfl⟩
      go_wp2_with fail
      obtain ⟨w2, hw2⟩ : ∃ w2, w2 = (((wq.alloc (.cells #[.slice none 0 0] 120)).alloc (.cells #[I W', I S'] 78)).alloc (.cells #[.slice A cs.length c] 38)) := ⟨_, rfl⟩
      rw [← hw2]
      have hc2 : Below wq.heap.size wq w2 := by rw [hw2]; exact three_boxes' _ _ _ _
      have hs2 : w2.heap.size = wq.heap.size + 3 := by rw [hw2]; simp
      have hn2 : w2.heap[wq.heap.size]? = some (.cells #[.slice none 0 0] 120 (0, 0)) := by
        rw [hw2]; exact (Below.heap_alloc _ _ _ (by simp; omega)).trans ((Below.heap_alloc _ _ _ (by simp)).trans (alloc_obj _ _ _ rfl))
      have hl2 : w2.heap[wq.heap.size + 1]? = some (.cells #[I W', I S'] 78 (0, 0)) := by
        rw [hw2]; exact (Below.heap_alloc _ _ _ (by simp)).trans (alloc_obj _ _ _ (by simp))
      have hd2 : w2.heap[wq.heap.size + 1 + 1]? = some (.cells #[.slice A cs.length c] 38 (0, 0)) := by
        rw [hw2]; exact alloc_obj _ _ _ (by simp)
      have hbd2 : Below w.heap.size w w2 := hbc.trans (hc2.mono (by omega))
      have y1 := (hc2.block _ (by omega)).trans Y1.out
      have y2 := (hc2.block _ (by omega)).trans Y2.out
      have y3 := (hc2.block _ (by omega)).trans Y3.out
      have y4 := (hc2.block _ (by omega)).trans Y4.out
      have Y1 := Lib.hid y1
      have Y2 := Lib.hid y2
      have Y3 := Lib.hid y3
      have Y4 := Lib.hid y4
      have LR := Lib.hid hl2
      have DR := Lib.hid hd2
      have hx3 := hx2.below hc2 (Nat.le_refl _)
      have t0 : w.heap.size + 1 + 1 + 1 + 1 < w2.heap.size := by omega
      clear hw2 l0 l1 y1 y2 y3 y4 hl2 hd2 hx2
      have hmem := fun x (h : x ∈ readings W' S' cs) => rd_mem hS hS10 h
      have HBD := Lib.hid (rd_bound hW4 hS10 cs)
      refine wpIn_wide.1 (wpIn_loopD (n := 20) rfl (by omega) (gf := 109) (fa := #[]) (lb := #[.pointer (some ⟨wq.heap.size + 1, 0, none⟩), .pointer (some ⟨wq.heap.size + 1 + 1, 0, none⟩)]) rfl trivial (enters_of Tryd.func109 (by kernel_rfl) rfl) (enc := rowV) (xs := readings W' S' cs) 5
        (fun V hV hG _ => readings_iterD W' S' hW hW4 hS hS10 cs hC hl A c (wq.heap.size + 1) (wq.heap.size + 1 + 1) _ (by omega) w2.heap.size wq.heap.size (by omega) V hV.size (by omega) (by omega)) rfl
        (fun j V => j ≤ 200 ∧ (∃ v, V.heap[wq.heap.size]? = some (.cells #[v] 120 (0, 0)) ∧ V.ownsRow (w2.heap.size + 7) 87 4 v j (rowsC ((readings W' S' cs).take j))) ∧ w2.grownBy V (some wq.heap.size))
        (fun cd _ V => cd = .ret ∧ 200 < (readings W' S' cs).length ∧ V.heap[w.heap.size + 1]? = some (.cells #[.slice none 0 0] 24 (0, 0)) ∧ V.heap[w.heap.size + 1 + 1]? = some (.cells #[I 0] 3 (0, 0)) ∧ V.heap[w.heap.size + 1 + 1 + 1]? = some (.cells #[I 2] 27 (0, 0)) ∧ Below w.heap.size w V)
        ?closed ?closedx ?toG ⟨by omega, ⟨_, hn2, World.ownsRow_nil _ _ _ _⟩, World.grownBy.refl _ _⟩ ?round ?done ?stop)
      case closed =>
        rintro j X Y ⟨h0, ⟨v, h1, h2⟩, h3⟩ hb
        exact ⟨h0, ⟨v, (hb.low.block _ (by omega)).trans h1, own_keepD h2 hb⟩, low_grown h3 hb.low⟩
      case closedx =>
        rintro cd j X Y ⟨e, h0, h1, h2, h3, h4⟩ hb
        exact ⟨e, h0, (hb.low.block _ (by omega)).trans h1, (hb.low.block _ (by omega)).trans h2, (hb.low.block _ (by omega)).trans h3, h4.trans (hb.low.mono (by omega))⟩
      case toG =>
        rintro j X ⟨-, -, h⟩
        have c0 := (h.block (wq.heap.size + 1) (by omega) (fun e => by injection e with e; omega)).trans LR.out
        have c1 := (h.block (wq.heap.size + 1 + 1) (by omega) (fun e => by injection e with e; omega)).trans DR.out
        exact ⟨cell_of_row X _ 0 _ _ _ c0, cell_of_row X _ 1 _ _ _ c0, cell_of_row X _ 0 _ _ _ c1, hx3.below (below_grown h (by omega)) (Nat.le_refl _), h.size⟩
      case round =>
        rintro l j hj X hl1 hl2 hl3 ⟨h0, ⟨v, h1, hown⟩, hX⟩
        have hsn : (readings W' S' cs).take (j + 1) = (readings W' S' cs).take j ++ [(readings W' S' cs)[j]] := List.take_succ_eq_append_getElem hj
        have hjl : ((readings W' S' cs).take j).length = j := by simp; omega
        generalize hx0 : (readings W' S' cs)[j] = x at *
        have HSN := Lib.hid hsn
        have HJL := Lib.hid hjl
        clear hx0 hsn hjl hmem
        gi_wp2
        refine ⟨(Below.refl _ _).alloc (Nat.le_refl _) _, fun o => ?_⟩
        obtain ⟨Y, hYd⟩ : ∃ Y, Y = (X.alloc (.cells #[I (nth x 0), I (nth x 1), I (nth x 2), I (nth x 3)] 87)).putObj l o := ⟨_, rfl⟩
        rw [← hYd]
        have hXY : Below w2.heap.size X Y := by
          rw [hYd]; exact ((Below.refl _ _).alloc (by omega) _).trans (below_putObj _ _ hl1)
        have hXYD : BelowD w2.heap.size (w2.heap.size + 7) X Y := by
          rw [hYd]; exact (BelowD.of_below ((Below.refl _ _).alloc (Nat.le_refl _) _) (Nat.le_refl _) (by omega)).trans (.putObj _ _ hl1 (by omega))
        have hrY : Y.heap[X.heap.size]? = some (.cells #[I (nth x 0), I (nth x 1), I (nth x 2), I (nth x 3)] 87 (0, 0)) := by
          rw [hYd]; exact (World.putObj_heap_other (by omega)).trans (alloc_obj _ _ _ rfl)
        have hY := low_grown hX hXY
        have hsY : X.heap.size < Y.heap.size := row_lt' hrY
        have hownY := own_keepD hown hXYD
        have y0 := (hXY.block _ (by omega)).trans h1
        clear hYd h1 hown
        obtain ⟨Av, cv, rfl, -⟩ : ∃ A c, v = .slice A j c ∧ RowsR Y Y.heap.size A ((readings W' S' cs).take j) := by
          have := own_rows (xs := (readings W' S' cs).take j) (by rw [HJL.out]; exact hownY)
          rw [HJL.out] at this
          exact this
        have b0 : Y.cell? ⟨wq.heap.size, 0, none⟩ = some (.slice Av j cv) := cell_of_row Y _ 0 _ _ _ y0
        have bf := frozen_of_row y0 0
        have r0 : Y.cell? ⟨X.heap.size, 0, none⟩ = some (I (nth x 0)) := cell_of_row Y _ 0 _ _ _ hrY
        have r1 : Y.cell? ⟨X.heap.size, 1, none⟩ = some (I (nth x 1)) := cell_of_row Y _ 1 _ _ _ hrY
        have r2 : Y.cell? ⟨X.heap.size, 2, none⟩ = some (I (nth x 2)) := cell_of_row Y _ 2 _ _ _ hrY
        have r3 : Y.cell? ⟨X.heap.size, 3, none⟩ = some (I (nth x 3)) := cell_of_row Y _ 3 _ _ _ hrY
        have H0 := Lib.hid y0
        have HRY := Lib.hid hrY
        clear y0 hrY hx3 hn2
        by_cases hj2 : j = 200
        · have g1 : ((j : Int) == 200) = true := by simp [hj2]
          have y1 := (hY.block (w.heap.size + 1) (by omega) (fun e => by injection e with e; omega)).trans Y1.out
          have y2 := (hY.block (w.heap.size + 1 + 1) (by omega) (fun e => by injection e with e; omega)).trans Y2.out
          have y3 := (hY.block (w.heap.size + 1 + 1 + 1) (by omega) (fun e => by injection e with e; omega)).trans Y3.out
          have e1 : Y.cell? ⟨w.heap.size + 1, 0, none⟩ = some (.slice none 0 0) := cell_of_row Y _ 0 _ _ _ y1
          have e2 : Y.cell? ⟨w.heap.size + 1 + 1, 0, none⟩ = some (I 0) := cell_of_row Y _ 0 _ _ _ y2
          have e3 : Y.cell? ⟨w.heap.size + 1 + 1 + 1, 0, none⟩ = some (I 0) := cell_of_row Y _ 0 _ _ _ y3
          have f1 := frozen_of_row y1 0
          have f2 := frozen_of_row y2 0
          have f3 := frozen_of_row y3 0
          have YY1 := Lib.hid y1
          have YY2 := Lib.hid y2
          have YY3 := Lib.hid y3
          have hYb := below_grown hY (by omega)
          clear y1 y2 y3 r0 r1 r2 r3
          gi_wp2
          obtain ⟨W3, hW3, z1, z2, z3, zs, zo, zb⟩ := store3 (.slice none 0 0) (I 0) (I 2) YY1.out YY2.out YY3.out (by omega) (by omega) (by omega)
          rw [← hW3]
          exact ⟨⟨by omega, fun b h1 h2 h3 => zo b (by omega) (by omega) (by omega)⟩, rfl, by omega, z1, z2, z3, hbd2.trans ((hYb.mono (by omega)).trans (zb _ (by omega) (by omega) (by omega)))⟩
        · have g1 : ((j : Int) == 200) = false := by simp; omega
          have hsX := hXY.size
          have HXYD := Lib.hid hXYD
          obtain ⟨i0, hi, hz0, hz1, hz2⟩ := info_parts info_row
          gi_upto_region 10 with fail
          gi_wp2_with (gi_at_builtin; refine wpListIn_append_own _ rfl _ _ 120 rfl (w2.heap.size + 7) 87 i0 _ 4 32 Tryd.underlying120 hi hz0 hz1 hz2 rfl (by decide) _ _ _ rfl (hownY.alloc _) ⟨Y.heap.size, 0, none⟩ 1 1 (rowL x) rfl rfl ?c1 ?c2 ?c3 ?c4 ?c5 ?_)
          case c1 =>
            intro q u hq
            rw [plain_add, Nat.zero_add]
            refine (alloc_cell' _ _ _ _ _ rfl).trans ?_
            simpa [rowL] using hq
          case c2 => exact fun u hu => rowsC_one [x] u (by simpa [rowsC] using hu)
          case c3 => unfold maxLen; omega
          case c4 => omega
          case c5 => simp; omega
          intro v' w'' g1 g2 _
          rw [← rowsC_snoc, ← HSN.out] at g1
          have hj1 : ((readings W' S' cs).take (j + 1)).length = j + 1 := by rw [HSN.out, List.length_append, HJL.out]; rfl
          obtain ⟨A9, c9, rfl, -⟩ : ∃ A c, v' = .slice A (j + 1) c ∧ RowsR w'' w''.heap.size A ((readings W' S' cs).take (j + 1)) := by
            have := own_rows (xs := (readings W' S' cs).take (j + 1)) (by rw [hj1]; exact g1)
            rw [hj1] at this
            exact this
          have hne : ∀ b, b < w2.heap.size + 7 → some b ≠ (Value.slice Av j cv).ownBlock := fun b hb e => by
            have := (hownY.lt b e.symm).1
            omega
          have hkeep : ∀ b, b < w2.heap.size + 7 → b < Y.heap.size → w''.heap[b]? = Y.heap[b]? := fun b h1 h2 => (g2.block b (by simp; omega) (hne b h1)).trans (Below.heap_alloc _ _ _ h2)
          have gs := g2.size
          simp only [World.size_alloc] at gs
          have yb := (hkeep wq.heap.size (by omega) (by omega)).trans H0.out
          have b1 : w''.cell? ⟨wq.heap.size, 0, none⟩ = some (.slice Av j cv) := cell_of_row w'' _ 0 _ _ _ yb
          have bf1 := frozen_of_row yb 0
          have HYB := Lib.hid yb
          have G1 := Lib.hid g1
          have GOS : Hid (w''.os = Y.os ∧ w''.tape = Y.tape ∧ w''.output = Y.output) := Lib.hid ⟨g2.os, g2.tape, g2.output⟩
          clear hj1 hne yb g1 g2 b0 bf
          gi_wp2_with fail
          obtain ⟨Z, hZ⟩ : ∃ Z, Z = w''.setCell ⟨wq.heap.size, 0, none⟩ (.slice A9 (j + 1) c9) := ⟨_, rfl⟩
          rw [← hZ]
          have hzr : Z.heap[wq.heap.size]? = some (.cells #[.slice A9 (j + 1) c9] 120 (0, 0)) := by rw [hZ]; exact row_set HYB.out 0 _
          have hzo : ∀ b, b ≠ wq.heap.size → Z.heap[b]? = w''.heap[b]? := fun b hb => by rw [hZ]; exact Below.heap_setCell _ _ _ _ hb
          have hzs : Z.heap.size = w''.heap.size := by rw [hZ]; simp [World.setCell]
          have hzb : Below wq.heap.size w'' Z := by rw [hZ]; exact (Below.refl _ _).setCell (p := ⟨wq.heap.size, 0, none⟩) (Nat.le_refl _) _
          refine ⟨⟨by omega, fun b h1 h2 h3 => (hzo b (by omega)).trans (hkeep b h2 h3)⟩, by omega, ⟨_, hzr, own_keepD (lo := wq.heap.size) (hi := w2.heap.size + 7) (by have := G1.out; rw [hs2]; exact this) ⟨hzb, fun b h1 _ => hzo b (by omega)⟩⟩, ?_⟩
          exact ⟨hzb.os.trans (GOS.out.1.trans hY.os), hzb.tape.trans (GOS.out.2.1.trans hY.tape), hzb.output.trans (GOS.out.2.2.trans hY.output), by have := hY.size; omega, fun b h1 h2 => (hzo b (fun e => h2 (by rw [e]))).trans ((hkeep b (by omega) (by have := hY.size; omega)).trans (hY.block b h1 h2))⟩
      case done =>
        rintro X ⟨h200, ⟨v, h1, hown⟩, hX⟩ hK
        obtain ⟨R, hR⟩ : ∃ R, R = readings W' S' cs := ⟨_, rfl⟩
        rw [← hR] at h200 hown
        rw [List.take_length] at hown
        have HOWN := Lib.hid hown
        obtain ⟨A9, c9, rfl, -⟩ := own_rows hown
        have y0 := h1
        have y1 := (hX.block (w.heap.size + 1) (by omega) (fun e => by injection e with e; omega)).trans Y1.out
        have y2 := (hX.block (w.heap.size + 1 + 1) (by omega) (fun e => by injection e with e; omega)).trans Y2.out
        have y3 := (hX.block (w.heap.size + 1 + 1 + 1) (by omega) (fun e => by injection e with e; omega)).trans Y3.out
        have y4 := (hX.block (w.heap.size + 1 + 1 + 1 + 1) (by omega) (fun e => by injection e with e; omega)).trans Y4.out
        have hbX : Below w.heap.size w X := hbd2.trans ((below_grown hX (by omega)).mono (by omega))
        have sX := hX.size
        have b0 : X.cell? ⟨wq.heap.size, 0, none⟩ = some (.slice A9 R.length c9) := cell_of_row X _ 0 _ _ _ y0
        have hmemR : ∀ x, x ∈ R → x.length = W' ∧ Sym x W' := fun x h => by
          have := rd_mem hS hS10 (cs := cs) (x := x) (by rw [← hR]; exact h)
          exact ⟨this.1, this.2.1⟩
        have HR := Lib.hid hR
        have HM := Lib.hid hmemR
        have X0 := Lib.hid y0
        have X1 := Lib.hid y1
        have X2 := Lib.hid y2
        have X3 := Lib.hid y3
        have X4 := Lib.hid y4
        clear h1 hown hR hmemR y0 y1 y2 y3 y4 hx3 hn2 hmem Y1 Y2 Y3 Y4
        by_cases h0 : R.length = 0
        · have g0 : ((R.length : Int) == 0) = true := by simp [h0]
          obtain ⟨n1, n2, n3⟩ := nx_zero HE.out (by rw [← HR.out]; exact h0)
          have HN := Lib.hid (And.intro n1 (And.intro n2 n3))
          have e1 : X.cell? ⟨w.heap.size + 1, 0, none⟩ = some (.slice none 0 0) := cell_of_row X _ 0 _ _ _ X1.out
          have e2 : X.cell? ⟨w.heap.size + 1 + 1, 0, none⟩ = some (I 0) := cell_of_row X _ 0 _ _ _ X2.out
          have e3 : X.cell? ⟨w.heap.size + 1 + 1 + 1, 0, none⟩ = some (I 0) := cell_of_row X _ 0 _ _ _ X3.out
          have f1 := frozen_of_row X1.out 0
          have f2 := frozen_of_row X2.out 0
          have f3 := frozen_of_row X3.out 0
          clear h0 n1 n2 n3
          go_wp2
          obtain ⟨W3, hW3, z1, z2, z3, zs, zo, zb⟩ := store3 (.slice none 0 0) (I 0) (I 3) X1.out X2.out X3.out (by omega) (by omega) (by omega)
          rw [← hW3]
          have hK3 : W3.heap[w2.heap.size]? = some (.deferred (some [])) := (zo _ (by omega) (by omega) (by omega)).trans hK
          have d1 : ∀ o, (W3.putObj w2.heap.size o).cell? ⟨w.heap.size + 1, 0, none⟩ = some (.slice none 0 0) := fun o => (World.cell?_of_block (w := W3) (World.putObj_heap_other (by show w.heap.size + 1 ≠ w2.heap.size; omega))).trans (cell_of_row W3 _ 0 _ _ _ z1)
          have d2 : ∀ o, (W3.putObj w2.heap.size o).cell? ⟨w.heap.size + 1 + 1, 0, none⟩ = some (I 0) := fun o => (World.cell?_of_block (w := W3) (World.putObj_heap_other (by show w.heap.size + 1 + 1 ≠ w2.heap.size; omega))).trans (cell_of_row W3 _ 0 _ _ _ z2)
          have d3 : ∀ o, (W3.putObj w2.heap.size o).cell? ⟨w.heap.size + 1 + 1 + 1, 0, none⟩ = some (I 3) := fun o => (World.cell?_of_block (w := W3) (World.putObj_heap_other (by show w.heap.size + 1 + 1 + 1 ≠ w2.heap.size; omega))).trans (cell_of_row W3 _ 0 _ _ _ z3)
          refine ⟨by simp, .inl ⟨_, _, rfl, run_takeDeferred hK3, ?_⟩⟩
          refine ⟨.tuple #[.slice none 0 0, I 0, I 3], ?_, none, 0, by rw [HN.out.1, HN.out.2.1, HN.out.2.2]; rfl, by rw [HN.out.2.1]; exact IntsR.nil, by rw [HN.out.2.1]; exact Nat.zero_le _, hbX.trans ((zb _ (by omega) (by omega) (by omega)).trans (below_putObj _ _ (by omega)))⟩
          simp [results, Tryd.results51, go_sem, d1, d2, d3]
        · have g0 : ((R.length : Int) == 0) = false := by simp; exact fun h => h0 (by simp [h])
          have hpos : 0 < R.length := by omega
          obtain ⟨n1, n2, n3⟩ := nx_some HE.out (by rw [← HR.out]; exact hpos) (by rw [← HR.out]; exact h200)
          rw [← HR.out] at n2 n3
          have HN := Lib.hid (And.intro n1 (And.intro n2 n3))
          obtain ⟨gb, cb, ev, hcap, hge, hgb, hc⟩ := own_rows2 HOWN.out hpos
          injection ev with ev1 _ ev3
          subst ev1 ev3
          have hg0 : R.getD 0 [] = R[0] := getD_at hpos
          have q0 : X.cell? ⟨gb, 0, none⟩ = some (I (nth R[0] 0)) := by simpa using hc 0 hpos 0 (by decide)
          have q1 : X.cell? ⟨gb, 1, none⟩ = some (I (nth R[0] 1)) := by simpa using hc 0 hpos 1 (by decide)
          have q2 : X.cell? ⟨gb, 2, none⟩ = some (I (nth R[0] 2)) := by simpa using hc 0 hpos 2 (by decide)
          have q3 : X.cell? ⟨gb, 3, none⟩ = some (I (nth R[0] 3)) := by simpa using hc 0 hpos 3 (by decide)
          have hrw : RowsR X X.heap.size (some ⟨gb, 0, none⟩) R := fun _ => ⟨gb, 0, rfl, hgb, fun j hj i hi => by rw [Nat.zero_add]; exact hc j hj i hi⟩
          have HRW := Lib.hid hrw
          have HC := Lib.hid hc
          generalize hx0 : R[0] = x0 at *
          have HG0 := Lib.hid hg0
          have l0 : X.cell? ⟨w.heap.size + 1 + 1 + 1 + 1, 0, none⟩ = some (I W') := cell_of_row X _ 0 _ _ _ X4.out
          have l1 : X.cell? ⟨w.heap.size + 1 + 1 + 1 + 1, 1, none⟩ = some (I S') := cell_of_row X _ 1 _ _ _ X4.out
          have t1 : w.heap.size + 1 < X.heap.size := by omega
          have t2 : w.heap.size + 1 + 1 < X.heap.size := by omega
          have t4 : w.heap.size + 1 + 1 + 1 + 1 < X.heap.size := by omega
          have tl : wq.heap.size < X.heap.size := by omega
          have m0 : W' ≤ 4 := hW4
          have hS0 : Sym x0 W' := by
            have := (HM.out (R.getD 0 []) (by rw [getD_at hpos]; exact List.getElem_mem _)).2
            rwa [HG0.out] at this
          clear hx0 hg0 h0 n1 n2 n3 hc hrw
          go_wp2_with fail
          obtain ⟨w3, hw3⟩ : ∃ w3, w3 = X.alloc (.cells #[I (nth x0 0), I (nth x0 1), I (nth x0 2), I (nth x0 3)] 87) := ⟨_, rfl⟩
          rw [← hw3]
          have hb3 : Below X.heap.size X w3 := by rw [hw3]; exact (Below.refl _ _).alloc (Nat.le_refl _) _
          have hs3 : X.heap.size < w3.heap.size := by rw [hw3]; simp
          have hz3 : w3.heap[X.heap.size]? = some (.cells #[I (nth x0 0), I (nth x0 1), I (nth x0 2), I (nth x0 3)] 87 (0, 0)) := by rw [hw3]; exact alloc_obj _ _ _ rfl
          have Z3 := Lib.hid hz3
          have HSY := Lib.hid hS0
          clear hw3 q0 q1 q2 q3 l0 l1 b0 hz3 hS0
          refine (leaves_any W' S' hW4 x0 HSY.out R (fun x h => (HM.out x h).2) h200 (some ⟨gb, 0, none⟩) c9 w3 (rows_call hb3 HRW.out)).mono ?_
          rintro e w4 ⟨rfl, hb4⟩
          have hv0 : mst (anN W' x0) R = lft W' R 0 := by rw [lft, HG0.out]
          rw [hv0]
          have hX4 : Below X.heap.size X w4 := hb3.trans (hb4.mono (by omega))
          have r2 := (hX4.block _ t2).trans X2.out
          have e2 : w4.cell? ⟨w.heap.size + 1 + 1, 0, none⟩ = some (I 0) := cell_of_row w4 _ 0 _ _ _ r2
          have f2 := frozen_of_row r2 0
          have r0 := (hX4.block _ tl).trans X0.out
          have b0 : w4.cell? ⟨wq.heap.size, 0, none⟩ = some (.slice (some ⟨gb, 0, none⟩) R.length c9) := cell_of_row w4 _ 0 _ _ _ r0
          have hz4 := (hb4.block _ hs3).trans Z3.out
          have Z4 := Lib.hid hz4
          have R2 := Lib.hid r2
          clear hv0 hb3 hb4 hz4
          go_upto_region 15 with fail
          obtain ⟨w5, hw5⟩ : ∃ w5, w5 = w4.setCell ⟨w.heap.size + 1 + 1, 0, none⟩ (I (lft W' R 0 : Nat)) := ⟨_, rfl⟩
          rw [← hw5]
          have z5 : w5.heap[w.heap.size + 1 + 1]? = some (.cells #[I (lft W' R 0 : Nat)] 3 (0, 0)) := by rw [hw5]; exact row_set R2.out 0 _
          have o5 : ∀ b, b ≠ w.heap.size + 1 + 1 → w5.heap[b]? = w4.heap[b]? := fun b hb => by rw [hw5]; exact Below.heap_setCell _ _ _ _ hb
          have s5 : w5.heap.size = w4.heap.size := by rw [hw5]; simp [World.setCell]
          have hb5 : Below w.heap.size w4 w5 := by rw [hw5]; exact (Below.refl _ _).setCell (p := ⟨w.heap.size + 1 + 1, 0, none⟩) (by show w.heap.size ≤ w.heap.size + 1 + 1; omega) _
          have hs4 := hX4.size
          have hN0 : NxW W' (w.heap.size + 1 + 1) X.heap.size w.heap.size R X 0 w5 := by
            refine ⟨?_, by rw [show bst (lft W' R) 0 = 0 from rfl]; exact z5, fun b h1 h2 => (o5 b h2).trans (hX4.block b h1), by have := row_lt' Z4.out; omega, (hX4.mono (by omega)).trans hb5⟩
            rw [show bst (lft W' R) 0 = 0 from rfl, HG0.out]
            exact (o5 _ (by omega)).trans Z4.out
          have b5 : w5.cell? ⟨wq.heap.size, 0, none⟩ = some (.slice (some ⟨gb, 0, none⟩) R.length c9) := (World.cell?_of_block (w := w4) (o5 wq.heap.size (by omega))).trans b0
          have hp1 : (1 : Int) ≤ (R.length : Int) := by omega
          clear hw5 z5 o5 s5 hb5 e2 f2 r0 r2 b0 hs4
          go_cut [48, 49, 50] from 15 to 67 (fun s48 s49 s50 wx => (∃ Az cz, s48 = .slice Az (R.length - 1) cz ∧ (0 < R.length - 1 → Az = some ⟨gb, 4, none⟩)) ∧ s49 = .int .i64 (R.length - 1 : Nat) ∧ s50 = .int .i64 0 ∧ wx = w5)
          case first =>
            go_wp2_with fail
            all_goals
              go_meet
              first
                | exact ⟨⟨_, _, rfl, fun _ => rfl⟩, rfl, rfl, rfl⟩
                | exact ⟨⟨_, _, rfl, fun h => absurd h (by omega)⟩, rfl, rfl, rfl⟩
          case rest =>
            obtain ⟨⟨Az, cz, rfl, hAz⟩, rfl, rfl, hw5⟩ := hcut
            rw [hw5]
            have HAZ := Lib.hid hAz
            clear hw5 hAz b5 hp1
            go_wp2_with fail
            go_loopw [50] (fun i wr => ∃ j : Nat, j < R.length ∧ i = .int .i64 j ∧ NxW W' (w.heap.size + 1 + 1) X.heap.size w.heap.size R X j wr) (fun i _ => R.length - 1 - (intOf i).toNat)
            case atStart => exact ⟨0, hpos, rfl, hN0⟩
            case round =>
              obtain ⟨j, hj, rfl, hN⟩ := hrel
              have y0 := (hN.same _ tl (by omega)).trans X0.out
              have y4 := (hN.same _ t4 (by omega)).trans X4.out
              have b0 : wr.cell? ⟨wq.heap.size, 0, none⟩ = some (.slice (some ⟨gb, 0, none⟩) R.length c9) := cell_of_row wr _ 0 _ _ _ y0
              have l0 : wr.cell? ⟨w.heap.size + 1 + 1 + 1 + 1, 0, none⟩ = some (I W') := cell_of_row wr _ 0 _ _ _ y4
              have l1 : wr.cell? ⟨w.heap.size + 1 + 1 + 1 + 1, 1, none⟩ = some (I S') := cell_of_row wr _ 1 _ _ _ y4
              have hsr := hN.size
              have hgr : gb ≠ w.heap.size + 1 + 1 := by omega
              have hbk := hN.same gb hgb hgr
              have hrw : RowsR wr wr.heap.size (some ⟨gb, 0, none⟩) R := fun _ => ⟨gb, 0, rfl, by omega, fun j hj i hi => by rw [Nat.zero_add]; exact (World.cell?_of_block (w := X) hbk).trans (HC.out j hj i hi)⟩
              have HRW4 := Lib.hid hrw
              have u0 : wq.heap.size < wr.heap.size := by omega
              have u2 : w.heap.size + 1 + 1 < wr.heap.size := by omega
              have u4 : w.heap.size + 1 + 1 + 1 + 1 < wr.heap.size := by omega
              by_cases hlt : j < R.length - 1
              · obtain rfl := HAZ.out (by omega)
                have hj1 : j + 1 < R.length := by omega
                have hq := fun i (hi : i < 4) => (World.cell?_of_block (w := X) hbk).trans (HC.out (j + 1) hj1 i hi)
                have q0 : wr.cell? ⟨gb, 4 + j * 4, none⟩ = some (I (nth R[j + 1] 0)) := by have := hq 0 (by decide); rwa [show (j + 1) * 4 + 0 = 4 + j * 4 by omega] at this
                have q1 : wr.cell? ⟨gb, 4 + j * 4 + 1, none⟩ = some (I (nth R[j + 1] 1)) := by have := hq 1 (by decide); rwa [show (j + 1) * 4 + 1 = 4 + j * 4 + 1 by omega] at this
                have q2 : wr.cell? ⟨gb, 4 + j * 4 + 2, none⟩ = some (I (nth R[j + 1] 2)) := by have := hq 2 (by decide); rwa [show (j + 1) * 4 + 2 = 4 + j * 4 + 2 by omega] at this
                have q3 : wr.cell? ⟨gb, 4 + j * 4 + 3, none⟩ = some (I (nth R[j + 1] 3)) := by have := hq 3 (by decide); rwa [show (j + 1) * 4 + 3 = 4 + j * 4 + 3 by omega] at this
                have hgx : R.getD (j + 1) [] = R[j + 1] := getD_at hj1
                have hxm := (HM.out _ (List.getElem_mem hj1)).2
                generalize hx : R[j + 1] = x at *
                have hv : mst (anN W' x) R = lft W' R (j + 1) := by rw [lft, hgx]
                obtain ⟨q, hqq⟩ : ∃ q, q = lft W' R (j + 1) := ⟨_, rfl⟩
                obtain ⟨p, hpp⟩ : ∃ p, p = lft W' R (bst (lft W' R) j) := ⟨_, rfl⟩
                rw [← hqq] at hv
                have hbs : bst (lft W' R) (j + 1) = if q < p then j + 1 else bst (lft W' R) j := by rw [bst, ← hqq, ← hpp]
                have HV := Lib.hid hv
                have HGX := Lib.hid hgx
                have HXM := Lib.hid hxm
                have HQQ := Lib.hid hqq
                have HPP := Lib.hid hpp
                have HBS := Lib.hid hbs
                have HN := Lib.hid hN
                clear hx hv hgx hxm hqq hpp hbs hq hrw y0 y4 hN hN0 hbk
                go_wp2_with fail
                have hb6 : Below wr.heap.size wr (wr.alloc (.cells #[I (nth x 0), I (nth x 1), I (nth x 2), I (nth x 3)] 87)) := (Below.refl _ _).alloc (Nat.le_refl _) _
                have z6 : (wr.alloc (.cells #[I (nth x 0), I (nth x 1), I (nth x 2), I (nth x 3)] 87)).heap[wr.heap.size]? = some (.cells #[I (nth x 0), I (nth x 1), I (nth x 2), I (nth x 3)] 87 (0, 0)) := alloc_obj _ _ _ rfl
                refine (leaves_any W' S' hW4 x HXM.out R (fun y h => (HM.out y h).2) h200 (some ⟨gb, 0, none⟩) c9 _ (rows_call hb6 HRW4.out)).mono ?_
                rintro e w7 ⟨rfl, hb7⟩
                rw [HV.out]
                have hb67 : Below wr.heap.size wr w7 := hb6.trans (hb7.mono (by simp))
                have z7 := (hb7.block wr.heap.size (by simp)).trans z6
                have hN7 := HN.out.call hb67 (by omega) (by omega)
                have m2 := hN7.num
                rw [← HPP.out] at m2
                have mB := hN7.row
                have e2 : w7.cell? ⟨w.heap.size + 1 + 1, 0, none⟩ = some (I (p : Nat)) := cell_of_row w7 _ 0 _ _ _ m2
                have f2 := frozen_of_row m2 0
                have x0' : w7.cell? ⟨wr.heap.size, 0, none⟩ = some (I (nth x 0)) := cell_of_row w7 _ 0 _ _ _ z7
                have x1' : w7.cell? ⟨wr.heap.size, 1, none⟩ = some (I (nth x 1)) := cell_of_row w7 _ 1 _ _ _ z7
                have x2' : w7.cell? ⟨wr.heap.size, 2, none⟩ = some (I (nth x 2)) := cell_of_row w7 _ 2 _ _ _ z7
                have x3' : w7.cell? ⟨wr.heap.size, 3, none⟩ = some (I (nth x 3)) := cell_of_row w7 _ 3 _ _ _ z7
                obtain ⟨gx, hgx⟩ : ∃ gx, gx = R.getD (bst (lft W' R) j) [] := ⟨_, rfl⟩
                rw [← hgx] at mB
                have v0 : w7.cell? ⟨X.heap.size, 0, none⟩ = some (I (nth gx 0)) := cell_of_row w7 _ 0 _ _ _ mB
                have v1 : w7.cell? ⟨X.heap.size, 1, none⟩ = some (I (nth gx 1)) := cell_of_row w7 _ 1 _ _ _ mB
                have v2 : w7.cell? ⟨X.heap.size, 2, none⟩ = some (I (nth gx 2)) := cell_of_row w7 _ 2 _ _ _ mB
                have v3 : w7.cell? ⟨X.heap.size, 3, none⟩ = some (I (nth gx 3)) := cell_of_row w7 _ 3 _ _ _ mB
                have k0 := frozen_of_row mB 0
                have k1 := frozen_of_row mB 1
                have k2 := frozen_of_row mB 2
                have k3 := frozen_of_row mB 3
                have MB := Lib.hid mB
                have HN7 := Lib.hid hN7
                have hs67 := hb67.size
                clear hgx mB m2 hN7 hb6 hb7 z6 z7 hb67 q0 q1 q2 q3 l0 l1 b0
                by_cases hqp : (q : Int) < (p : Int)
                · have e9 : bst (lft W' R) (j + 1) = j + 1 := by rw [HBS.out, if_pos (by omega)]
                  have E9 := Lib.hid e9
                  clear e9
                  go_wp2_with fail
                  obtain ⟨w8, hw8, z8, s8, o8, b8⟩ := row4n MB.out x
                  rw [← hw8]
                  have hN9 := HN7.out.yes E9.out HGX.out HQQ.out.symm (by omega) (by omega) z8 s8 o8 b8
                  go_roundw
                  case rel => exact ⟨j + 1, by omega, by go_num, hN9⟩
                  case measure => simp [intOf]; omega
                · have e9 : bst (lft W' R) (j + 1) = bst (lft W' R) j := by rw [HBS.out, if_neg (by omega)]
                  have hN9 := HN7.out.no e9
                  have HN9 := Lib.hid hN9
                  clear e9 hN9
                  go_wp2_with fail
                  go_roundw
                  case rel => exact ⟨j + 1, by omega, by go_num, HN9.out⟩
                  case measure => simp [intOf]; omega
              · have hjn : j = R.length - 1 := by omega
                go_upto_region 22 with fail
                have HJN := Lib.hid hjn
                obtain ⟨x, hx⟩ : ∃ x, x = R.getD (bst (lft W' R) j) [] := ⟨_, rfl⟩
                obtain ⟨p, hp⟩ : ∃ p, p = lft W' R (bst (lft W' R) j) := ⟨_, rfl⟩
                have hbj : bst (lft W' R) j < R.length := by have := bst_le (lft W' R) j; omega
                have hxl : x.length = W' := by rw [hx, getD_at hbj]; exact (HM.out _ (List.getElem_mem hbj)).1
                have mB := hN.row
                have m2 := hN.num
                rw [← hx] at mB
                rw [← hp] at m2
                have y1 := (hN.same _ t1 (by omega)).trans X1.out
                have y3 := (hN.same (w.heap.size + 1 + 1 + 1) (by omega) (by omega)).trans X3.out
                have hKK := (hN.same _ (show w2.heap.size < X.heap.size from row_lt' hK) (by omega)).trans hK
                have HX := Lib.hid hx
                have HP := Lib.hid hp
                have HXL := Lib.hid hxl
                have hbw : Below w.heap.size w wr := hbX.trans hN.below
                clear hx hp hjn hN hN0 b0 hrw hbk hxl
                refine wp_region_inv (by kernel_rfl) (fun La ac w' => La.size = 7 ∧ ∃ t64 t65 t66 t67 : Value, ac = { tmps := #[lockV W' S', Value.slice A cs.length c, Value.pointer (some ⟨w.heap.size, 0, none⟩), undef, Value.pointer (some ⟨w.heap.size + 1, 0, none⟩), Value.pointer (some ⟨w.heap.size + 1 + 1, 0, none⟩), Value.pointer (some ⟨w.heap.size + 1 + 1 + 1, 0, none⟩), Value.pointer (some ⟨w.heap.size + 1 + 1 + 1 + 1, 0, none⟩), I (cntE W' S' cs), Value.pointer (some ⟨wq.heap.size, 0, none⟩), undef, Value.pointer (some ⟨X.heap.size, 0, none⟩), undef, u13, u14, u15, u16, u17, u18, u19, u20, u21, u22, u23, u24, u25, u26, u27, u28, u29, u30, u31, u32, u33, u34, u35, u36, u37, u38, u39, u40, u41, u42, u43, u44, u45, u46, u47, Value.slice Az (R.length - 1) cz, Value.int IntKind.i64 (R.length - 1 : Nat), Value.int IntKind.i64 (j : Nat), Value.bool false, u52, u53, u54, u55, u56, u57, u58, u59, u60, u61, u62, u63, t64, t65, t66, t67], defers := [{ target := Target.collected (wq.heap.size + 3), args := #[] }] } ∧ (∀ b, b < wr.heap.size → b ≠ w.heap.size + 1 → w'.heap[b]? = wr.heap[b]?) ∧ Below w.heap.size wr w' ∧
                  (La.getD 0 false = true → t64 = lockV W' S') ∧ (La.getD 1 false = true → t65 = rowV x) ∧ (La.getD 2 false = true → w'.ownsRow wr.heap.size 3 1 t66 x.length (x.map I)) ∧ (La.getD 3 false = true → t67 = I (p : Nat)) ∧
                  (La.getD 4 false = true → w'.heap[w.heap.size + 1]? = some (.cells #[t66] 24 (0, 0))) ∧ (La.getD 4 false = true → La.getD 2 false = true) ∧ ∃ v, w'.heap[w.heap.size + 1]? = some (.cells #[v] 24 (0, 0))) ?_ ?_ ?_
                · exact ⟨by simp, _, _, _, _, rfl, fun _ _ _ => rfl, (Below.refl _ _).drew, by simp, by simp, by simp, by simp, by simp, by simp, _, y1⟩
                · rintro i La ac w' ⟨hL, t64, t65, t66, t67, rfl, hs, hb, h0, h1, h2, h3, h4, h42, ht⟩ hi
                  have hcases : i = 0 ∨ i = 1 ∨ i = 2 ∨ i = 3 ∨ i = 4 ∨ i = 5 ∨ i = 6 := by
                    have : i < 7 := ready_lt hi
                    omega
                  have hsz := hb.size
                  rcases hcases with rfl | rfl | rfl | rfl | rfl | rfl | rfl
                  · have e0 := (World.cell?_of_block (w := wr) (a := ⟨w.heap.size + 1 + 1 + 1 + 1, 0, none⟩) (hs (w.heap.size + 1 + 1 + 1 + 1) (by omega) (by omega))).trans l0
                    have e1 := (World.cell?_of_block (w := wr) (a := ⟨w.heap.size + 1 + 1 + 1 + 1, 1, none⟩) (hs (w.heap.size + 1 + 1 + 1 + 1) (by omega) (by omega))).trans l1
                    refine wpOp_val (lockV W' S') rfl (by rfl) (by go_simp) ?_
                    exact ⟨by simpa using hL, _, _, _, _, rfl, hs, hb, fun _ => rfl, (fun h => h1 ((set_other (by decide)).symm.trans h)), (fun h => h2 ((set_other (by decide)).symm.trans h)), (fun h => h3 ((set_other (by decide)).symm.trans h)), (fun h => h4 ((set_other (by decide)).symm.trans h)), (fun h => (set_other (by decide)).trans (h42 ((set_other (by decide)).symm.trans h))), ht⟩
                  · have z := (hs X.heap.size (by omega) (by omega)).trans mB
                    have e0 : w'.cell? ⟨X.heap.size, 0, none⟩ = some (I (nth x 0)) := cell_of_row w' _ 0 _ _ _ z
                    have e1 : w'.cell? ⟨X.heap.size, 1, none⟩ = some (I (nth x 1)) := cell_of_row w' _ 1 _ _ _ z
                    have e2 : w'.cell? ⟨X.heap.size, 2, none⟩ = some (I (nth x 2)) := cell_of_row w' _ 2 _ _ _ z
                    have e3 : w'.cell? ⟨X.heap.size, 3, none⟩ = some (I (nth x 3)) := cell_of_row w' _ 3 _ _ _ z
                    refine wpOp_val (rowV x) rfl (by rfl) (by go_simp) ?_
                    exact ⟨by simpa using hL, _, _, _, _, rfl, hs, hb, (fun h => h0 ((set_other (by decide)).symm.trans h)), fun _ => rfl, (fun h => h2 ((set_other (by decide)).symm.trans h)), (fun h => h3 ((set_other (by decide)).symm.trans h)), (fun h => h4 ((set_other (by decide)).symm.trans h)), (fun h => (set_other (by decide)).trans (h42 ((set_other (by decide)).symm.trans h))), ht⟩
                  · obtain rfl := h0 (ready_dep hi 0 (by kernel_rfl))
                    obtain rfl := h1 (ready_dep hi 1 (by kernel_rfl))
                    have hn := ready_not' hi (by omega)
                    refine wpOp_wp rfl (by rfl) (wp_call_fns (vs := #[lockV W' S', rowV x]) rfl (by simp [Act.eval]) (enters_of Tryd.func79 (by kernel_rfl) rfl) ((code_any W' S' hW4 x HXL.out w').mono ?_))
                    rintro e w'' ⟨v, rfl, hown, hb2⟩
                    obtain ⟨vt, ht⟩ := ht
                    exact ⟨by simpa using hL, _, _, _, _, rfl, (fun b e1 e2 => (hb2.block b (by omega)).trans (hs b e1 e2)), (hb.trans (hb2.mono (by omega))), (fun h => h0 ((set_other (by decide)).symm.trans h)), (fun h => h1 ((set_other (by decide)).symm.trans h)), (fun _ => own_base hown hsz), (fun h => h3 ((set_other (by decide)).symm.trans h)), (fun h => by have := h42 ((set_other (by decide)).symm.trans h); rw [this] at hn; cases hn), (fun _ => set_same (by omega)), ⟨vt, (hb2.block _ (by omega)).trans ht⟩⟩
                  · have z := (hs (w.heap.size + 1 + 1) (by omega) (by omega)).trans m2
                    have e0 : w'.cell? ⟨w.heap.size + 1 + 1, 0, none⟩ = some (I (p : Nat)) := cell_of_row w' _ 0 _ _ _ z
                    refine wpOp_val (I (p : Nat)) rfl (by rfl) (by go_simp) ?_
                    exact ⟨by simpa using hL, _, _, _, _, rfl, hs, hb, (fun h => h0 ((set_other (by decide)).symm.trans h)), (fun h => h1 ((set_other (by decide)).symm.trans h)), (fun h => h2 ((set_other (by decide)).symm.trans h)), fun _ => rfl, (fun h => h4 ((set_other (by decide)).symm.trans h)), (fun h => (set_other (by decide)).trans (h42 ((set_other (by decide)).symm.trans h))), ht⟩
                  · have d2 := ready_dep hi 2 (by kernel_rfl)
                    have hown := h2 d2
                    obtain ⟨Ac, cc, rfl, -, -⟩ := own_ints hown
                    obtain ⟨vt, ht⟩ := ht
                    have e0 : w'.cell? ⟨w.heap.size + 1, 0, none⟩ = some vt := cell_of_row w' _ 0 _ _ _ ht
                    have f0 := frozen_of_row ht 0
                    refine wpOp_wp rfl (by rfl) (opwp_res (r := .ok .skip (w'.setCell ⟨w.heap.size + 1, 0, none⟩ (.slice Ac x.length cc))) (by go_simp) ?_)
                    have hnew : (w'.setCell ⟨w.heap.size + 1, 0, none⟩ (.slice Ac x.length cc)).heap[w.heap.size + 1]? = some (.cells #[.slice Ac x.length cc] 24 (0, 0)) := row_set ht 0 _
                    have hoth : ∀ b, b ≠ w.heap.size + 1 → (w'.setCell ⟨w.heap.size + 1, 0, none⟩ (.slice Ac x.length cc)).heap[b]? = w'.heap[b]? := fun b hb => Below.heap_setCell _ _ _ _ hb
                    have hbl : Below w.heap.size w' (w'.setCell ⟨w.heap.size + 1, 0, none⟩ (.slice Ac x.length cc)) := (Below.refl _ _).setCell (p := ⟨w.heap.size + 1, 0, none⟩) (by show w.heap.size ≤ w.heap.size + 1; omega) _
                    exact ⟨by simpa using hL, _, _, _, _, rfl, (fun b e1 e2 => (hoth b e2).trans (hs b e1 e2)), (hb.trans hbl), (fun h => h0 ((set_other (by decide)).symm.trans h)), (fun h => h1 ((set_other (by decide)).symm.trans h)), (fun _ => own_keepD (lo := w.heap.size) hown ⟨hbl, fun b e1 _ => hoth b (by omega)⟩), (fun h => h3 ((set_other (by decide)).symm.trans h)), (fun _ => hnew), (fun _ => (set_other (by decide)).trans d2), ⟨_, hnew⟩⟩
                  · obtain rfl := h3 (ready_dep hi 3 (by kernel_rfl))
                    have z := (hs (w.heap.size + 1 + 1) (by omega) (by omega)).trans m2
                    have e0 : w'.cell? ⟨w.heap.size + 1 + 1, 0, none⟩ = some (I (p : Nat)) := cell_of_row w' _ 0 _ _ _ z
                    have f0 := frozen_of_row z 0
                    refine wpOp_wp rfl (by rfl) (opwp_res (r := .ok .skip (w'.setCell ⟨w.heap.size + 1 + 1, 0, none⟩ (I (p : Nat)))) (by go_simp) ?_)
                    have hsame : ∀ b, (w'.setCell ⟨w.heap.size + 1 + 1, 0, none⟩ (I (p : Nat))).heap[b]? = w'.heap[b]? := fun b => by
                      by_cases e : b = w.heap.size + 1 + 1
                      · subst e; exact (row_set z 0 _).trans z.symm
                      · exact Below.heap_setCell _ _ _ _ e
                    have hbl : Below w.heap.size w' (w'.setCell ⟨w.heap.size + 1 + 1, 0, none⟩ (I (p : Nat))) := (Below.refl _ _).setCell (p := ⟨w.heap.size + 1 + 1, 0, none⟩) (by show w.heap.size ≤ w.heap.size + 1 + 1; omega) _
                    obtain ⟨vt, ht⟩ := ht
                    exact ⟨by simpa using hL, _, _, _, _, rfl, (fun b e1 e2 => (hsame b).trans (hs b e1 e2)), (hb.trans hbl), (fun h => h0 ((set_other (by decide)).symm.trans h)), (fun h => h1 ((set_other (by decide)).symm.trans h)), (fun h => own_keepD (lo := w.heap.size) (h2 ((set_other (by decide)).symm.trans h)) ⟨hbl, fun b _ _ => hsame b⟩), (fun h => h3 ((set_other (by decide)).symm.trans h)), (fun h => (hsame _).trans (h4 ((set_other (by decide)).symm.trans h))), (fun h => (set_other (by decide)).trans (h42 ((set_other (by decide)).symm.trans h))), ⟨vt, (hsame _).trans ht⟩⟩
                  · have z := (hs (w.heap.size + 1 + 1 + 1) (by omega) (by omega)).trans y3
                    have e0 : w'.cell? ⟨w.heap.size + 1 + 1 + 1, 0, none⟩ = some (I 0) := cell_of_row w' _ 0 _ _ _ z
                    have f0 := frozen_of_row z 0
                    refine wpOp_wp rfl (by rfl) (opwp_res (r := .ok .skip (w'.setCell ⟨w.heap.size + 1 + 1 + 1, 0, none⟩ (I 0))) (by go_simp) ?_)
                    have hsame : ∀ b, (w'.setCell ⟨w.heap.size + 1 + 1 + 1, 0, none⟩ (I 0)).heap[b]? = w'.heap[b]? := fun b => by
                      by_cases e : b = w.heap.size + 1 + 1 + 1
                      · subst e; exact (row_set z 0 _).trans z.symm
                      · exact Below.heap_setCell _ _ _ _ e
                    have hbl : Below w.heap.size w' (w'.setCell ⟨w.heap.size + 1 + 1 + 1, 0, none⟩ (I 0)) := (Below.refl _ _).setCell (p := ⟨w.heap.size + 1 + 1 + 1, 0, none⟩) (by show w.heap.size ≤ w.heap.size + 1 + 1 + 1; omega) _
                    obtain ⟨vt, ht⟩ := ht
                    exact ⟨by simpa using hL, _, _, _, _, rfl, (fun b e1 e2 => (hsame b).trans (hs b e1 e2)), (hb.trans hbl), (fun h => h0 ((set_other (by decide)).symm.trans h)), (fun h => h1 ((set_other (by decide)).symm.trans h)), (fun h => own_keepD (lo := w.heap.size) (h2 ((set_other (by decide)).symm.trans h)) ⟨hbl, fun b _ _ => hsame b⟩), (fun h => h3 ((set_other (by decide)).symm.trans h)), (fun h => (hsame _).trans (h4 ((set_other (by decide)).symm.trans h))), (fun h => (set_other (by decide)).trans (h42 ((set_other (by decide)).symm.trans h))), ⟨vt, (hsame _).trans ht⟩⟩
                · rintro La ac w' ⟨hL, t64, t65, t66, t67, rfl, hs, hb, h0, h1, h2, h3, h4, h42, ht⟩ hr
                  have hall := all_listed hL (by kernel_rfl) hr
                  obtain rfl := h0 (hall 0 (by decide))
                  obtain rfl := h1 (hall 1 (by decide))
                  obtain rfl := h3 (hall 3 (by decide))
                  have hown := h2 (hall 2 (by decide))
                  have z1 := h4 (hall 4 (by decide))
                  obtain ⟨Ac, cc, rfl, -, hml⟩ := own_ints hown
                  have z2 := (hs (w.heap.size + 1 + 1) (by omega) (by omega)).trans m2
                  have z3 := (hs (w.heap.size + 1 + 1 + 1) (by omega) (by omega)).trans y3
                  have zK := (hs w2.heap.size (by omega) (by omega)).trans hKK
                  have HOW := Lib.hid hown
                  have d1 : ∀ o, (w'.putObj w2.heap.size o).cell? ⟨w.heap.size + 1, 0, none⟩ = some (.slice Ac x.length cc) := fun o => (World.cell?_of_block (w := w') (World.putObj_heap_other (by show w.heap.size + 1 ≠ w2.heap.size; omega))).trans (cell_of_row w' _ 0 _ _ _ z1)
                  have d2 : ∀ o, (w'.putObj w2.heap.size o).cell? ⟨w.heap.size + 1 + 1, 0, none⟩ = some (I (p : Nat)) := fun o => (World.cell?_of_block (w := w') (World.putObj_heap_other (by show w.heap.size + 1 + 1 ≠ w2.heap.size; omega))).trans (cell_of_row w' _ 0 _ _ _ z2)
                  have d3 : ∀ o, (w'.putObj w2.heap.size o).cell? ⟨w.heap.size + 1 + 1 + 1, 0, none⟩ = some (I 0) := fun o => (World.cell?_of_block (w := w') (World.putObj_heap_other (by show w.heap.size + 1 + 1 + 1 ≠ w2.heap.size; omega))).trans (cell_of_row w' _ 0 _ _ _ z3)
                  clear hall hr hL h0 h1 h2 h3 h4 h42 ht hown z1 z2 z3
                  rw [hs2] at zK d1 d2 d3
                  try dsimp only
                  go_wp2
                  refine ⟨by simp, .inl ⟨_, _, rfl, run_takeDeferred zK, ?_⟩⟩
                  refine ⟨.tuple #[.slice Ac x.length cc, I (p : Nat), I 0], ?_, Ac, cc, ?_, ?_, ?_, hbw.trans (hb.trans (below_putObj _ _ (by omega)))⟩
                  · simp [results, Tryd.results51, go_sem, d1, d2, d3]
                  · rw [HN.out.1, HN.out.2.1, HN.out.2.2, ← HJN.out, ← HX.out, ← HP.out]
                  · rw [HN.out.2.1, ← HJN.out, ← HX.out]
                    obtain ⟨A3, c3, e3, h3, -⟩ := own_ints (own_keepD HOW.out (BelowD.putObj (lo := wq.heap.size + 3) w' _ (Nat.le_refl _) (by omega)))
                    injection e3 with e3 _ _
                    rw [e3]
                    exact h3
                  · rw [HN.out.2.1, ← HJN.out, ← HX.out]
                    exact hml
      case stop =>
        rintro cd j X j0 j1 ⟨rfl, h200, y1, y2, y3, hX⟩ hK
        obtain ⟨n1, n2, n3⟩ := nx_many HE.out h200
        have HN := Lib.hid (And.intro n1 (And.intro n2 n3))
        have d1 : ∀ o, (X.putObj w2.heap.size o).cell? ⟨w.heap.size + 1, 0, none⟩ = some (.slice none 0 0) := fun o => (World.cell?_of_block (w := X) (World.putObj_heap_other (by show w.heap.size + 1 ≠ w2.heap.size; omega))).trans (cell_of_row X _ 0 _ _ _ y1)
        have d2 : ∀ o, (X.putObj w2.heap.size o).cell? ⟨w.heap.size + 1 + 1, 0, none⟩ = some (I 0) := fun o => (World.cell?_of_block (w := X) (World.putObj_heap_other (by show w.heap.size + 1 + 1 ≠ w2.heap.size; omega))).trans (cell_of_row X _ 0 _ _ _ y2)
        have d3 : ∀ o, (X.putObj w2.heap.size o).cell? ⟨w.heap.size + 1 + 1 + 1, 0, none⟩ = some (I 2) := fun o => (World.cell?_of_block (w := X) (World.putObj_heap_other (by show w.heap.size + 1 + 1 + 1 ≠ w2.heap.size; omega))).trans (cell_of_row X _ 0 _ _ _ y3)
        clear y1 y2 y3 hx3 hn2 hmem h200 n1 n2 n3
        gi_wp2
        refine ⟨by simp, .inl ⟨_, _, rfl, run_takeDeferred hK, ?_⟩⟩
        refine ⟨.tuple #[.slice none 0 0, I 0, I 2], ?_, none, 0, by rw [HN.out.1, HN.out.2.1, HN.out.2.2]; rfl, by rw [HN.out.2.1]; exact IntsR.nil, by rw [HN.out.2.1]; exact Nat.zero_le _, hX.trans (below_putObj _ _ (by omega))⟩
        simp [results, Tryd.results51, go_sem, d1, d2, d3]
    · have hb0 : (cntE W S cs != 0) = true := by simpa using he
      obtain ⟨n1, n2, n3⟩ := nx_bad he
      have HN := Lib.hid (And.intro n1 (And.intro n2 n3))
      have e1 : wq.cell? ⟨w.heap.size + 1, 0, none⟩ = some (.slice none 0 0) := cell_of_row wq _ 0 _ _ _ Y1.out
      have e2 : wq.cell? ⟨w.heap.size + 1 + 1, 0, none⟩ = some (I 0) := cell_of_row wq _ 0 _ _ _ Y2.out
      have e3 : wq.cell? ⟨w.heap.size + 1 + 1 + 1, 0, none⟩ = some (I 0) := cell_of_row wq _ 0 _ _ _ Y3.out
      have f1 := frozen_of_row Y1.out 0
      have f2 := frozen_of_row Y2.out 0
      have f3 := frozen_of_row Y3.out 0
      clear he n1 n2 n3
      go_wp2
      obtain ⟨W3, hW3, z1, z2, z3, -, -, zb⟩ := store3 (.slice none 0 0) (I 0) (I (cntE W S cs)) Y1.out Y2.out Y3.out (by omega) (by omega) (by omega)
      rw [← hW3]
      have d1 : W3.cell? ⟨w.heap.size + 1, 0, none⟩ = some (.slice none 0 0) := cell_of_row W3 _ 0 _ _ _ z1
      have d2 : W3.cell? ⟨w.heap.size + 1 + 1, 0, none⟩ = some (I 0) := cell_of_row W3 _ 0 _ _ _ z2
      have d3 : W3.cell? ⟨w.heap.size + 1 + 1 + 1, 0, none⟩ = some (I (cntE W S cs)) := cell_of_row W3 _ 0 _ _ _ z3
      refine ⟨.tuple #[.slice none 0 0, I 0, I (cntE W S cs)], ?_, none, 0, by rw [HN.out.1, HN.out.2.1, HN.out.2.2]; rfl, by rw [HN.out.2.1]; exact IntsR.nil, by rw [HN.out.2.1]; exact Nat.zero_le _, hbc.trans (zb _ (by omega) (by omega) (by omega))⟩
      simp [results, Tryd.results51, go_sem, d1, d2, d3]
end Go.Proofs.YthegmomjfbcabaaDoor
