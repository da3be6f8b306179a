/-
  CONTRACT: codes.Shows.
-/
import Derived.Test.YthegmomjfbcabaaDoorSLists
namespace Go.Proofs.YthegmomjfbcabaaDoor
open Go.RowKit Go.Shelf
attribute [local go_sem] Oper.semAt_some
/-- what the array shows: wheel by wheel, symbol by symbol -/
def sh (R : List (List Int)) (W q : Nat) : Bool := decide (q / 10 < W) && R.any (fun r => nth r (q / 10) == ((q % 10 : Nat) : Int))
/-- .. while the wheels of a further reading are looked at -/
def shn (R : List (List Int)) (W : Nat) (x : List Int) (k q : Nat) : Bool := sh R W q || (decide (q / 10 < k) && nth x (q / 10) == ((q % 10 : Nat) : Int))
theorem shn_zero (R : List (List Int)) (W : Nat) (x : List Int) (q : Nat) : shn R W x 0 q = sh R W q := by simp [shn]
theorem shn_all (R : List (List Int)) (W : Nat) (x : List Int) (q : Nat) : shn R W x W q = sh (R ++ [x]) W q := by
  by_cases h : q / 10 < W <;> simp [shn, sh, h]
theorem shn_step (R : List (List Int)) (W : Nat) (x : List Int) (k s q : Nat) (hs : nth x k = (s : Int)) (hs10 : s < 10) : shn R W x (k + 1) q = if q = k * 10 + s then true else shn R W x k q := by
  by_cases e : q = k * 10 + s
  · have h1 : q / 10 = k := by omega
    have h2 : q % 10 = s := by omega
    rw [if_pos e]
    simp [shn, h1, h2, hs]
  · rw [if_neg e]
    by_cases h : q / 10 = k
    · have h2 : q % 10 ≠ s := by omega
      simp only [shn, h, hs]
      simp
      exact fun hh => absurd hh (by omega)
    · have h4 : (q / 10 < k + 1) = (q / 10 < k) := by apply propext; omega
      simp only [shn, h4]

theorem sh_col {R : List (List Int)} {W k i : Nat} (hk : k < W) (hi : i < 10) : sh R W (k * 10 + i) = col R k i := by
  have h1 : (k * 10 + i) / 10 = k := by omega
  have h2 : (k * 10 + i) % 10 = i := by omega
  simp only [sh, h1, h2, hk, decide_true, Bool.true_and, col]
set_option maxRecDepth 100000 in
theorem run_idx (R : List (List Int)) (k t : Nat) (h : t < 10) (w : World) : (Instr.index 101 (.agg #[Value.bool (col R k 0), Value.bool (col R k 1), Value.bool (col R k 2), Value.bool (col R k 3), Value.bool (col R k 4), Value.bool (col R k 5), Value.bool (col R k 6), Value.bool (col R k 7), Value.bool (col R k 8), Value.bool (col R k 9)]) (.int .i64 (t : Nat))).run Tryd.prog w = .ok (.bool (col R k t)) w := by
  rcases (show t = 0 ∨ t = 1 ∨ t = 2 ∨ t = 3 ∨ t = 4 ∨ t = 5 ∨ t = 6 ∨ t = 7 ∨ t = 8 ∨ t = 9 by omega) with rfl | rfl | rfl | rfl | rfl | rfl | rfl | rfl | rfl | rfl <;> (first | rfl | go_simp)
theorem full_ten {R : List (List Int)} {W S k : Nat} (hk : k < W) (hS10 : S ≤ 10) (h : ∀ r ∈ R, ∀ i, i < W → nth r i < S) : full R k 10 = full R k S := by
  have hn : ∀ m, full R k (S + m) = full R k S := by
    intro m
    induction m with
    | zero => rfl
    | succ m ih =>
      rw [← Nat.add_assoc, full_no, ih]
      rw [col, List.any_eq_false]
      intro r hr
      have := h r hr k hk
      simp
      omega
  have := hn (10 - S)
  rwa [Nat.add_sub_cancel' hS10] at this
theorem shw_ten {R : List (List Int)} {W S : Nat} (hS10 : S ≤ 10) (h : ∀ r ∈ R, ∀ i, i < W → nth r i < S) : shw R W 10 = shw R W S := by
  apply List.map_congr_left
  intro k hk
  exact full_ten (List.mem_range.1 hk) hS10 h
theorem Tbl.putDef {w : World} {base g l : Nat} {o : Obj} {xss : List (List Int)} (h : Tbl w base g xss) (hl : l < g) (hb : g ≤ base := by omega) : Tbl (w.putObj l o) base g xss := by
  obtain ⟨vs, h1, h2, h3, h4⟩ := h
  refine ⟨vs, h1, (World.putObj_heap_other (by omega)).trans h2, fun j hj => ?_, h4⟩
  obtain ⟨u, e, h5⟩ := h3 j hj
  exact ⟨u, e, own_keepD (lo := l) h5 ⟨below_putObj _ _ (Nat.le_refl _), fun b e1 _ => World.putObj_heap_other (by omega)⟩⟩
theorem grown_trans {X Y Z : World} {row : Option Nat} (h : X.grownBy Y row) (k : Y.grownBy Z row) : X.grownBy Z row :=
  ⟨k.os.trans h.os, k.tape.trans h.tape, k.output.trans h.output, Nat.le_trans h.size k.size, fun b hb hn => (k.block b (Nat.lt_of_lt_of_le hb h.size) hn).trans (h.block b hb hn)⟩
set_option maxRecDepth 100000 in
set_option maxHeartbeats 4000000 in
theorem Shows_any (W S : Int) (A : Option Addr) (c : Nat) (cs : List Cl) (w : World) (hT : Tab w) (hx : ClsR w w.heap.size A cs) (hl : cs.length ≤ maxLen) :
    Calls Tryd.prog 37 #[lockV W S, .slice A cs.length c] w fun e w' => ∃ A' c', e = .returned (.tuple #[.slice A' (shwL W S cs).length c', I (cntE W S cs)]) ∧ SlsR w' w'.heap.size A' (shwL W S cs) ∧ (shwL W S cs).length ≤ maxLen ∧ Below w.heap.size w w' := by
  refine (callsIn_wide (n := 20)).1 (callsIn_of_wp_marks Tryd.func37 rfl trivial ?_ rfl)
  rw [wpIn_wide]
  simp only [Tryd.ntmps37, List.size_toArray, List.length_cons, List.length_nil, Nat.reduceAdd, Nat.reduceSub, Array.replicate_succ, Array.replicate_zero, List.push_toArray, List.append_toArray, List.nil_append, List.cons_append]
  go_upto_region 2 with fail
  obtain ⟨w1, hw1⟩ : ∃ w1, w1 = (w.alloc (.cells #[I W, I S] 23)).alloc (.cells #[I W, I S] 78) := ⟨_, rfl⟩
  rw [← hw1]
  have y2 : w1.heap[w.heap.size + 1]? = some (.cells #[I W, I S] 78 (0, 0)) := by rw [hw1]; exact alloc_obj _ _ _ (by simp)
  have l0 : w1.cell? ⟨w.heap.size + 1, 0, none⟩ = some (I W) := cell_of_row w1 _ 0 _ _ _ y2
  have l1 : w1.cell? ⟨w.heap.size + 1, 1, none⟩ = some (I S) := cell_of_row w1 _ 1 _ _ _ y2
  have hb1 : Below w.heap.size w w1 := by rw [hw1]; exact two_boxes _ _ _
  have s1 : w.heap.size + 1 < w1.heap.size := by rw [hw1]; simp
  have hx1 := cls_call hb1 hx
  have hT1 := hT.below hb1
  have Y2 := Lib.hid y2
  clear hw1 y2 hx hT
  go_cut [7] from 15 to 70 (fun s7 wx => s7 = I (cntE W S cs) ∧ KeptS w1 wx)
  case first =>
    go_region_held3 (fun w' => Below w1.heap.size w1 w' ∧ (∀ b o, b < w1.heap.size → w'.cell? ⟨b, o, none⟩ = w1.cell? ⟨b, o, none⟩))
      (first | exact keptS_drew _ | exact keptS_call (by assumption) hb | exact keptS_alloc (by assumption) _ | assumption)
      (first
        | (go_at_call 61; refine (lockCheck_any _ _ _).mono ?_; rintro e w' ⟨rfl, hb⟩)
        | (go_at_call 73; go_must (refine (checkClues_any _ _ _ _ _ cs _ ?_ ?_ hl).mono ?_); go_must (exact hT1.below (And.left (by assumption : KeptS w1 _))); go_must (exact cls_call (And.left (by assumption : KeptS w1 _)) hx1); rintro e w' ⟨rfl, hb⟩)
        | (go_at_call 63; go_must (refine (first_any _ _ [lockErr W S, cluesErr W S 20 cs] _ ?_ ?_).mono ?_); go_must (exact ints_new _ [lockErr W S, cluesErr W S 20 cs] _); go_must (simp [maxLen]); rintro e w' ⟨rfl, rfl⟩))
    all_goals
      go_wp2_with fail
      go_meet
      exact ⟨rfl, by assumption⟩
  case rest =>
    obtain ⟨rfl, hk⟩ := hcut
    have hkb := hk.1
    have hx2 := cls_call hkb hx1
    have hbc : Below w.heap.size w wc := hb1.trans (hkb.mono (by omega))
    have t0 : w.heap.size + 1 < wc.heap.size := by have := hkb.size; omega
    have y2 := (hkb.block _ (by omega)).trans Y2.out
    clear hk hkb hx1 hT1 l0 l1 Y2 s1
    have Y2 := Lib.hid y2
    clear y2
    by_cases he : cntE W S cs = 0
    · have hb0 : (cntE W S cs != 0) = false := by simp [he]
      obtain ⟨W', S', rfl, rfl, hW, hW4, hS, hS10, hC⟩ := cntE_nat he
      have HE := Lib.hid he
      have HL := Lib.hid (show shwL W' S' cs = shw (readings W' S' cs) W' S' from if_pos he)
      clear he
      have l0 : wc.cell? ⟨w.heap.size + 1, 0, none⟩ = some (I W') := cell_of_row wc _ 0 _ _ _ Y2.out
      have l1 : wc.cell? ⟨w.heap.size + 1, 1, none⟩ = some (I S') := cell_of_row wc _ 1 _ _ _ Y2.out
      go_wp2_with fail
      refine (readings_any _ _ _ _ _ _).mono ?_
      rintro e w' ⟨rfl, rfl⟩
      go_wp2_with fail
      obtain ⟨w2, hw2⟩ : ∃ w2, w2 = (((wc.alloc (.cells #[.bool false, .bool false, .bool false, .bool false, .bool false, .bool false, .bool false, .bool false, .bool false, .bool false, .bool false, .bool false, .bool false, .bool false, .bool false, .bool false, .bool false, .bool false, .bool false, .bool false, .bool false, .bool false, .bool false, .bool false, .bool false, .bool false, .bool false, .bool false, .bool false, .bool false, .bool false, .bool false, .bool false, .bool false, .bool false, .bool false, .bool false, .bool false, .bool false, .bool false] 102)).alloc (.cells #[I W', I S'] 78)).alloc (.cells #[.slice A cs.length c] 38)) := ⟨_, rfl⟩
      rw [← hw2]
      have hc2 : Below wc.heap.size wc w2 := by rw [hw2]; exact three_boxes' _ _ _ _
      have hs2 : w2.heap.size = wc.heap.size + 3 := by rw [hw2]; simp
      have hn2 : w2.heap[wc.heap.size]? = some (.cells (Array.replicate 40 (.bool false)) 102 (0, 0)) := by
        rw [hw2]; exact (Below.heap_alloc _ _ _ (by simp; omega)).trans ((Below.heap_alloc _ _ _ (by simp)).trans (alloc_obj _ _ _ rfl))
      have hl2 : w2.heap[wc.heap.size + 1]? = some (.cells #[I W', I S'] 78 (0, 0)) := by
        rw [hw2]; exact (Below.heap_alloc _ _ _ (by simp)).trans (alloc_obj _ _ _ (by simp))
      have hd2 : w2.heap[wc.heap.size + 1 + 1]? = some (.cells #[.slice A cs.length c] 38 (0, 0)) := by
        rw [hw2]; exact alloc_obj _ _ _ (by simp)
      have hr0 : w2.rowIs wc.heap.size 102 40 (fun q => .bool (sh [] W' q)) := ⟨_, hn2, by simp, fun i hi => by simp [hi, sh]⟩
      have hbd2 : Below w.heap.size w w2 := hbc.trans (hc2.mono (by omega))
      have y2 := (hc2.block _ (by omega)).trans Y2.out
      have Y2 := Lib.hid y2
      have LR := Lib.hid hl2
      have DR := Lib.hid hd2
      have hx3 := hx2.below hc2 (Nat.le_refl _)
      have t0 : w.heap.size + 1 < w2.heap.size := by omega
      clear hw2 l0 l1 y2 hl2 hd2 hx2 hn2
      have hmem := fun x (h : x ∈ readings W' S' cs) => rd_mem hS hS10 h
      refine wpIn_wide.1 (wpIn_loopD (n := 20) rfl (by omega) (gf := 109) (fa := #[]) (lb := #[.pointer (some ⟨wc.heap.size + 1, 0, none⟩), .pointer (some ⟨wc.heap.size + 1 + 1, 0, none⟩)]) rfl trivial (enters_of Tryd.func109 (by kernel_rfl) rfl) (enc := rowV) (xs := readings W' S' cs) 5
        (fun V hV hG _ => readings_iterD W' S' hW hW4 hS hS10 cs hC hl A c (wc.heap.size + 1) (wc.heap.size + 1 + 1) _ (by omega) w2.heap.size wc.heap.size (by omega) V hV.size (by omega) (by omega)) rfl
        (fun j V => V.rowIs wc.heap.size 102 40 (fun q => .bool (sh ((readings W' S' cs).take j) W' q)) ∧ w2.grownBy V (some wc.heap.size))
        (fun _ _ _ => False)
        ?closed (fun _ _ _ _ h _ => h.elim) ?toG ⟨hr0, World.grownBy.refl _ _⟩ ?round ?done (fun _ _ _ _ _ h _ => h.elim))
      case closed =>
        rintro j X Y ⟨h1, h3⟩ hb
        exact ⟨h1.of_block (hb.low.block _ (by omega)), low_grown h3 hb.low⟩
      case toG =>
        rintro j X ⟨-, h⟩
        have c0 := (h.block (wc.heap.size + 1) (by omega) (fun e => by injection e with e; omega)).trans LR.out
        have c1 := (h.block (wc.heap.size + 1 + 1) (by omega) (fun e => by injection e with e; omega)).trans DR.out
        exact ⟨cell_of_row X _ 0 _ _ _ c0, cell_of_row X _ 1 _ _ _ c0, cell_of_row X _ 0 _ _ _ c1, hx3.below (below_grown h (by omega)) (Nat.le_refl _), h.size⟩
      case round =>
        rintro l j hj X hl1 hl2 hl3 ⟨h1, hX⟩
        obtain ⟨x1, x2, x3, _, _⟩ := hmem _ (List.getElem_mem hj)
        have hsn : (readings W' S' cs).take (j + 1) = (readings W' S' cs).take j ++ [(readings W' S' cs)[j]] := List.take_succ_eq_append_getElem hj
        generalize hx0 : (readings W' S' cs)[j] = x at *
        have HSN := Lib.hid hsn
        have HX2 := Lib.hid x2
        clear hx0 hsn x1 x2 x3 hmem
        gi_wp2
        refine ⟨(Below.refl _ _).alloc (Nat.le_refl _) _, fun o => ?_⟩
        obtain ⟨Y, hYd⟩ : ∃ Y, Y = (X.alloc (.cells #[I (nth x 0), I (nth x 1), I (nth x 2), I (nth x 3)] 87)).putObj l o := ⟨_, rfl⟩
        rw [← hYd]
        have hXY : Below w2.heap.size X Y := by
          rw [hYd]; exact ((Below.refl _ _).alloc (by omega) _).trans (below_putObj _ _ hl1)
        have hrY : Y.heap[X.heap.size]? = some (.cells #[I (nth x 0), I (nth x 1), I (nth x 2), I (nth x 3)] 87 (0, 0)) := by
          rw [hYd]; exact (World.putObj_heap_other (by omega)).trans (alloc_obj _ _ _ rfl)
        have hY := low_grown hX hXY
        have hsY : X.heap.size < Y.heap.size := row_lt' hrY
        have hrow := h1.of_block (hXY.block _ (by omega))
        have y2 := (hY.block (w.heap.size + 1) (by omega) (fun e => by injection e with e; omega)).trans Y2.out
        clear hYd h1
        have l0 : Y.cell? ⟨w.heap.size + 1, 0, none⟩ = some (I W') := cell_of_row Y _ 0 _ _ _ y2
        have l1 : Y.cell? ⟨w.heap.size + 1, 1, none⟩ = some (I S') := cell_of_row Y _ 1 _ _ _ y2
        have HRY := Lib.hid hrY
        clear y2 hrY hx3 hr0
        gi_wp2_with fail
        gi_loopw [32] (fun i V => ∃ k : Nat, k ≤ W' ∧ i = .int .i64 k ∧ V.rowIs wc.heap.size 102 40 (fun q => .bool (shn ((readings W' S' cs).take j) W' x k q)) ∧ Y.grownBy V (some wc.heap.size)) (fun i _ => W' - (intOf i).toNat)
        case atStart => exact ⟨0, Nat.zero_le _, rfl, hrow.congr (fun q _ => by rw [shn_zero]), World.grownBy.refl _ _⟩
        case round =>
          obtain ⟨k, hk, rfl, hrw, hV⟩ := hrel
          by_cases hlt : k < W'
          · have hsym := HX2.out k hlt
            obtain ⟨s, hs⟩ : ∃ s : Nat, nth x k = s := ⟨(nth x k).toNat, by omega⟩
            have hs10 : s < 10 := by omega
            have HS := Lib.hid hs
            have d1 : wr.cell? ⟨X.heap.size, k, none⟩ = some (I (s : Int)) := by
              rw [← hs]
              exact (cell_of_row wr _ k _ _ _ ((hV.block X.heap.size hsY (fun e => by injection e with e; omega)).trans HRY.out)).trans (rowCells_at x k (by omega))
            have d2 := hrw.cell (i := k * 10 + s) (by omega)
            have d3 := hrw.frozen (k * 10 + s)
            clear hs hsym l0 l1
            gi_wp2_with fail
            gi_region
            all_goals
              gi_wp2
              refine ⟨⟨k + 1, by omega, by go_num, ((hrw.set (k * 10 + s) (.bool true)).drew).congr (fun q _ => ?_), only_drew (only_setCell hV (.inl rfl) _)⟩, by simp [intOf]; omega⟩
              rw [shn_step _ _ _ _ s q HS.out hs10]
              split <;> rfl
          · obtain rfl : W' = k := by omega
            have hfin : wr.rowIs wc.heap.size 102 40 (fun q => .bool (sh ((readings W' S' cs).take (j + 1)) W' q)) := hrw.congr (fun q _ => by rw [shn_all, HSN.out])
            gi_wp2
            exact ⟨⟨hV.size, fun b h1 h2 h3 => hV.block b h3 (fun e => by injection e with e; omega)⟩, hfin, grown_trans hY hV⟩
      case done =>
        rintro X ⟨h1, hX⟩ hK
        rw [List.take_length] at h1
        have y2 := (hX.block (w.heap.size + 1) (by omega) (fun e => by injection e with e; omega)).trans Y2.out
        have l0 : X.cell? ⟨w.heap.size + 1, 0, none⟩ = some (I W') := cell_of_row X _ 0 _ _ _ y2
        have hmk := run_make_row' (P := Tryd.prog) 44 24 (.slice none 0 0) 24 Tryd.underlying44 info_sl rfl .i64 .i64 W' (by omega) (by omega)
        simp only [made_nils] at hmk
        have hXs := hX.size
        have hwX : wc.heap.size < X.heap.size := by omega
        have hwX2 : wc.heap.size ≤ w2.heap.size := by omega
        have hbw : w.heap.size ≤ wc.heap.size := by omega
        clear hs2
        clear y2 hx3 hr0
        generalize hR : readings W' S' cs = R at *
        have hmd : ∀ r ∈ R, ∀ i, i < W' → nth r i < S' := fun r hr i hi => by have := (hmem r hr).2.2.1 i hi; omega
        have HRR := Lib.hid hR
        clear hR hmem
        go_wp2_with fail
        obtain ⟨w4, hw4⟩ : ∃ w4, w4 = X.alloc (.cells (Array.replicate W' (.slice none 0 0)) 24) := ⟨_, rfl⟩
        rw [← hw4]
        have hg4 : w4.heap[X.heap.size]? = some (.cells (Array.replicate W' (.slice none 0 0)) 24 (0, 0)) := by rw [hw4]; exact alloc_obj _ _ _ rfl
        have hb4 : Below X.heap.size X w4 := by rw [hw4]; exact (Below.refl _ _).alloc (Nat.le_refl _) _
        have ht4 := Tbl.new (base := X.heap.size + 1) hg4
        clear hw4 hg4 hmk l0
        go_loopw [47] (fun i wr => ∃ k : Nat, k ≤ W' ∧ i = .int .i64 k ∧ Tbl wr (X.heap.size + 1) X.heap.size (shT R W' 10 k 0) ∧ Below X.heap.size X wr) (fun i _ => W' - (intOf i).toNat)
        case atStart => exact ⟨0, Nat.zero_le _, rfl, by rw [shT_zero]; exact ht4, hb4⟩
        case round =>
          obtain ⟨k, hk, rfl, hT, hB⟩ := hrel
          clear ht4 hb4
          by_cases hlt : k < W'
          · have hc := fun i (hi : i < 10) => (hB.cell (p := ⟨wc.heap.size, k * 10 + i, none⟩) (by show wc.heap.size < _; omega)).trans ((h1.cell (i := k * 10 + i) (by omega)).trans (by rw [sh_col hlt hi]))
            have c0 : wr.cell? ⟨wc.heap.size, k * 10, none⟩ = some (.bool (col R k 0)) := hc 0 (by decide)
            have c1 := hc 1 (by decide)
            have c2 := hc 2 (by decide)
            have c3 := hc 3 (by decide)
            have c4 := hc 4 (by decide)
            have c5 := hc 5 (by decide)
            have c6 := hc 6 (by decide)
            have c7 := hc 7 (by decide)
            have c8 := hc 8 (by decide)
            have c9 := hc 9 (by decide)
            clear hc
            go_wp2_with fail
            clear c0 c1 c2 c3 c4 c5 c6 c7 c8 c9
            obtain ⟨wo, hwo⟩ : ∃ wo : World, wo = wr := ⟨_, rfl⟩
            subst hwo
            go_loopw [53] (fun i wx => ∃ t : Nat, t ≤ 10 ∧ i = .int .i64 t ∧ Tbl wx (X.heap.size + 1) X.heap.size (shT R W' 10 k t) ∧ Below X.heap.size X wx) (fun i _ => 10 - (intOf i).toNat)
            case atStart => exact ⟨0, Nat.zero_le _, rfl, hT, hB⟩
            case round =>
              obtain ⟨t, ht, rfl, hT2, hB2⟩ := hrel
              clear hT hB
              by_cases hlt2 : t < 10
              · have hix := fun w => run_idx R k t hlt2 w
                cases hcl : col R k t
                · have HF := Lib.hid (shT_skip (W := W') (S := 10) (full_no hcl))
                  simp only [hcl] at hix
                  clear hcl
                  go_wp2_with fail
                  go_roundw
                  case rel => exact ⟨t + 1, by omega, by go_num, by rw [HF.out]; exact hT2, hB2⟩
                  case measure => simp [intOf]; omega
                · simp only [hcl] at hix
                  have hfy := full_yes hcl
                  have HF := Lib.hid (shT_set R W' 10 k t)
                  have hjl : k < (shT R W' 10 k t).length := by rw [shT_length]; exact hlt
                  have hat : (shT R W' 10 k t)[k] = full R k t := by rw [shT_at]; simp
                  rw [hfy, ← hat] at HF
                  have hfl : (shT R W' 10 k t)[k].length ≤ 10 := by rw [hat]; exact Nat.le_trans (full_length R k t) (by omega)
                  generalize hxs : shT R W' 10 k t = xss at *
                  obtain ⟨vs, hv1, hv2, hv3, hv4⟩ := hT2
                  obtain ⟨u, hu, hown⟩ := hv3 k hjl
                  obtain ⟨i0, hi, hz0, hz1, hz2⟩ := info_parts info_int
                  have hsz := hB2.size
                  have hgl : X.heap.size < wr.heap.size := (Array.getElem?_eq_some_iff.1 hv2).1
                  have cu : wr.cell? ⟨X.heap.size, k, none⟩ = some u := (cell_of_row wr _ k _ _ _ hv2).trans (by simpa using hu)
                  have hub := hown.lt
                  have HV2 := Lib.hid hv2
                  clear hv2 hcl hfy hat hxs
                  go_wp2_with (at_builtin; refine wpList_append_new rfl _ _ 24 rfl (X.heap.size + 1) 3 i0 (.int .i64 0) 1 8 Tryd.underlying24 hi hz0 hz1 hz2 rfl (by decide) _ _ _ rfl (hown.alloc _) ⟨wr.heap.size, 0, none⟩ 1 1 [.int .i64 t] rfl rfl ?c1 ?c2 ?c3 ?c4 ?c5 ?c6 ?_)
                  case c1 =>
                    intro j u hj
                    match j, hj with
                    | 0, hj => simp at hj; subst hj; simp [Addr.add]
                  case c2 => intro u hu; simp at hu; subst hu; rfl
                  case c3 => unfold maxLen; omega
                  case c4 => omega
                  case c5 => simp; omega
                  case c6 => decide
                  · intro v' w5 hown' hgrow hnew
                    have hown2 : w5.ownsRow (X.heap.size + 1) 3 1 v' (xss[k] ++ [(t : Int)]).length ((xss[k] ++ [(t : Int)]).map I) := by simpa using hown'
                    obtain ⟨Av, cv, hv, -, -⟩ := own_ints hown2
                    rw [show (xss[k] ++ [(t : Int)]).length = xss[k].length + 1 by simp] at hv
                    subst hv
                    have hrw : w5.heap[X.heap.size]? = some (.cells vs.toArray 24 (0, 0)) := (hgrow.block _ (by simp; omega) (fun e => by have := (hub _ e.symm).1; omega)).trans ((Below.heap_alloc _ _ _ hgl).trans HV2.out)
                    have e1 : w5.cell? ⟨X.heap.size, k, none⟩ = some u := (cell_of_row w5 _ k _ _ _ hrw).trans (by simpa using hu)
                    have f1 := frozen_of_row hrw k
                    have hT5 := tbl_step hv1 HV2.out hv3 hv4 (by omega) hjl hu (World.grownBy_alloc _ _ _) hown' hgrow (by rw [World.size_alloc]; exact hnew)
                    rw [HF.out] at hT5
                    have hB5 : Below X.heap.size X (w5.setCell ⟨X.heap.size, k, none⟩ (.slice Av (xss[k].length + 1) cv)) := (((hB2.alloc (by omega) _).grown hgrow (by simp; omega) (fun b hb => by have := (hub b hb).1; omega))).setCell (p := ⟨X.heap.size, k, none⟩) (Nat.le_refl _) _
                    clear hown' hown2 hgrow hnew hv3 hv4 hown hub hrw cu
                    go_wp2
                    go_roundw
                    case rel => exact ⟨t + 1, by omega, by go_num, hT5, hB5⟩
                    case measure => simp [intOf]; omega
              · obtain rfl : t = 10 := by omega
                go_wp2_with fail
                go_roundw
                case rel => exact ⟨k + 1, by omega, by go_num, by rw [← shT_next]; exact hT2, hB2⟩
                case measure => simp [intOf]; omega
          · obtain rfl : W' = k := by omega
            rw [shT_all, shw_ten hS10 hmd] at hT
            have HTB := Lib.hid hT
            have hKl : w2.heap.size < X.heap.size := (Array.getElem?_eq_some_iff.1 hK).1
            have hK2 := (hB.block _ hKl).trans hK
            have hlen : (shw R W' S').length = W' := by simp [shw]
            have HLN := Lib.hid hlen
            clear hT hlen
            go_wp2
            refine ⟨by simp, .inl ⟨_, _, rfl, run_takeDeferred hK2, ?_⟩⟩
            refine ⟨_, results_tmp2 rfl _ _ _, some ⟨X.heap.size, 0, none⟩, W', by rw [HL.out, HE.out, HLN.out]; rfl, ?_, by rw [HL.out, HLN.out]; unfold maxLen; omega, hbd2.trans ((below_grown hX (by omega)).mono (by omega) |>.trans ((hB.mono (by omega)).trans (below_putObj _ _ (by omega))))⟩
            rw [HL.out]
            exact (HTB.out.putDef (by omega)).sls
    · have hb0 : (cntE W S cs != 0) = true := by simpa using he
      have HL := Lib.hid (show shwL W S cs = [] from if_neg he)
      clear he
      go_wp2
      refine ⟨_, results_tmp2 rfl _ _ _, none, 0, by rw [HL.out]; rfl, by rw [HL.out]; exact fun h => absurd h (Nat.lt_irrefl 0), by rw [HL.out]; exact Nat.zero_le _, hbc⟩
end Go.Proofs.YthegmomjfbcabaaDoor
