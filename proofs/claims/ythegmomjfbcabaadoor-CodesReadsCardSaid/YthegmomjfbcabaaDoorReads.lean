/-
  CONTRACT: codes.Readings.
-/
import Derived.Test.YthegmomjfbcabaaDoorImp
import Derived.Test.YthegmomjfbcabaaDoorInvD
import Derived.Sort.CutIn
namespace Go.Proofs.YthegmomjfbcabaaDoor
open Go.RowKit Go.Shelf
attribute [local go_sem] Oper.semAt_some

theorem low_grown {w X Y : World} {g : Nat} (h : w.grownBy X (some g)) (hb : Below w.heap.size X Y) : w.grownBy Y (some g) :=
  ⟨hb.os.trans h.os, hb.tape.trans h.tape, hb.output.trans h.output, Nat.le_trans h.size hb.size, fun k hk hn => (hb.block k hk).trans (h.block k hk hn)⟩
theorem below_grown {w X : World} {g : Nat} (h : w.grownBy X (some g)) (hg : g ≤ w.heap.size) : Below g w X :=
  ⟨h.os, h.tape, h.output, h.size, fun k hk => h.block k (by omega) (fun e => by injection e with e; omega)⟩
theorem Lists.keepD {X Y : World} {lo hi : Nat} {v : Value} {xss : List (List Int)} (h : Lists X hi v xss) (hb : BelowD lo hi X Y) : Lists Y hi v xss := by
  obtain ⟨vs, h1, h2⟩ := h
  refine ⟨vs, own_keepD h1 hb, fun j hj => ?_⟩
  obtain ⟨u, e, h3⟩ := h2 j hj
  exact ⟨u, e, own_keepD h3 hb⟩

/-- behind the append: the list is one longer -/
def RdR (w2 Y : World) (hi LB : Nat) (v : Value) (xss : List (List Int)) (u : Value) (w' : World) : Prop :=
  Lists w' hi u xss ∧ w'.heap[LB]? = some (.cells #[v] 44 (0, 0)) ∧ w2.grownBy w' (some LB) ∧ KeepMid w2.heap.size hi Y w' ∧ Y.heap.size ≤ w'.heap.size
/-- the phases of 'list = append(list, k.code(r))' -/
def RdP (w2 Y : World) (hi LB : Nat) (v : Value) (x : List Int) (xss : List (List Int)) : Nat → Value → Value → Value → World → Prop
  | 0, _, _, _, w' => Below Y.heap.size Y w'
  | 1, c, _, _, w' => Below Y.heap.size Y w' ∧ w'.ownsRow hi 3 1 c x.length (x.map I)
  | 2, c, d, _, w' => ∃ wb, Below Y.heap.size Y wb ∧ wb.ownsRow hi 3 1 c x.length (x.map I) ∧ w' = wb.alloc (.cells #[c] 24) ∧ d = .slice (some ⟨wb.heap.size, 0, none⟩) 1 1
  | 3, _, _, u, w' => RdR w2 Y hi LB v (xss ++ [x]) u w'
  | _, _, _, u, w' => ∃ wr, RdR w2 Y hi LB v (xss ++ [x]) u wr ∧ w' = wr.setCell ⟨LB, 0, none⟩ u
theorem RdP_row {w2 Y w' : World} {hi LB ph : Nat} {v c d u : Value} {x : List Int} {xss : List (List Int)} (h : RdP w2 Y hi LB v x xss ph c d u w') (hp : ph < 3) (hr : Y.heap[LB]? = some (.cells #[v] 44 (0, 0))) : w'.heap[LB]? = some (.cells #[v] 44 (0, 0)) := by
  have hlt := row_lt' hr
  match ph, hp, h with
  | 0, _, h => exact (Below.block h _ hlt).trans hr
  | 1, _, h => exact (h.1.block _ hlt).trans hr
  | 2, _, ⟨wb, h1, _, e, _⟩ => rw [e]; exact (Below.heap_alloc _ _ _ (by have := h1.size; omega)).trans ((h1.block _ hlt).trans hr)
theorem rd_after {w2 Y wb w' : World} {hi LB : Nat} {v c v' : Value} {x : List Int} {xss : List (List Int)} {vs : List Value} (hY : w2.grownBy Y (some LB)) (hLB : Y.heap[LB]? = some (.cells #[v] 44 (0, 0))) (hlb : LB < w2.heap.size) (hlo : w2.heap.size ≤ hi) (hhi : hi ≤ Y.heap.size)
    (hb : Below Y.heap.size Y wb) (hu : wb.ownsRow hi 3 1 c x.length (x.map I)) (hown : wb.ownsRow hi 24 1 v xss.length vs) (hin : ∀ j (h : j < xss.length), ∃ u, vs[j]? = some u ∧ wb.ownsRow hi 3 1 u xss[j].length (xss[j].map I))
    (hown' : w'.ownsRow hi 24 1 v' (xss.length + 1) (vs ++ [c])) (hgrow : (wb.alloc (.cells #[c] 24)).grownBy w' v.ownBlock) : RdR w2 Y hi LB v (xss ++ [x]) v' w' := by
  have hrow := hown.lt
  have hsz := hb.size
  have hs' := hgrow.size
  simp at hs'
  have hYs := hY.size
  have hkeep : ∀ b, b < hi → w'.heap[b]? = Y.heap[b]? := fun b hbh => by
    refine (hgrow.block b (by simp; omega) (fun e => ?_)).trans ((Below.heap_alloc _ _ _ (by omega)).trans (hb.block b (by omega)))
    have := (hrow b e.symm).1
    omega
  refine ⟨snoc_lists hown hin hu (World.grownBy_alloc _ _ _) hown' hgrow, (hkeep LB (by omega)).trans hLB, ⟨hgrow.os.trans (hb.os.trans hY.os), hgrow.tape.trans (hb.tape.trans hY.tape), hgrow.output.trans (hb.output.trans hY.output), by omega, fun k hk hn => (hkeep k (by omega)).trans (hY.block k hk hn)⟩,
    ⟨by omega, fun b _ h2 _ => hkeep b h2⟩, by omega⟩
theorem opwp_res {P : Program} {Q : Exit → Act → World → Prop} {o : Oper} {a : Act} {w : World} {K : Act → World → Prop} {r : Result Next} (hv : (execOp a.eval o).run P w = r) (h : o.upon P a K Q r) : o.wp P a w K Q := by
  unfold Oper.wp
  rw [hv]
  exact h
theorem opwp_val {P : Program} {Q : Exit → Act → World → Prop} {o : Oper} {a : Act} {w : World} {K : Act → World → Prop} (v : Value) (hv : (execOp a.eval o).run P w = .ok (.value v) w) (h : K (a.put o.dst v) w) : o.wp P a w K Q := opwp_res hv h

set_option maxRecDepth 100000 in
set_option maxHeartbeats 4000000 in
theorem Readings_any (W S : Int) (A : Option Addr) (c : Nat) (cs : List Cl) (most : Int) (w : World) (hT : Tab w) (hx : ClsR w w.heap.size A cs) (hl : cs.length ≤ maxLen) :
    Calls Tryd.prog 34 #[lockV W S, .slice A cs.length c, .int .i64 most] w fun e w' => ∃ A' c', e = .returned (.tuple #[.slice A' (rdL W S cs most).length c', I (rdE W S cs most)]) ∧ SlsR w' w'.heap.size A' (rdL W S cs most) ∧ (rdL W S cs most).length ≤ maxLen ∧ Below w.heap.size w w' := by
  refine (callsIn_wide (n := 20)).1 (callsIn_of_wp_marks Tryd.func34 rfl trivial ?_ rfl)
  rw [wpIn_wide]
  simp only [Tryd.ntmps34, List.size_toArray, List.length_cons, List.length_nil, Nat.reduceAdd, Nat.reduceSub, Array.replicate_succ, Array.replicate_zero, List.push_toArray, List.append_toArray, List.nil_append, List.cons_append]
  go_upto_region 2 with fail
  obtain ⟨w1, hw1⟩ : ∃ w1, w1 = ((w.alloc (.cells #[I W, I S] 23)).alloc (.cells #[I most] 3)).alloc (.cells #[I W, I S] 78) := ⟨_, rfl⟩
  rw [← hw1]
  have y1 : w1.heap[w.heap.size + 1]? = some (.cells #[I most] 3 (0, 0)) := by rw [hw1]; exact (Below.heap_alloc _ _ _ (by simp)).trans (alloc_obj _ _ _ (by simp))
  have y2 : w1.heap[w.heap.size + 1 + 1]? = some (.cells #[I W, I S] 78 (0, 0)) := by rw [hw1]; exact alloc_obj _ _ _ (by simp)
  have l0 : w1.cell? ⟨w.heap.size + 1 + 1, 0, none⟩ = some (I W) := cell_of_row w1 _ 0 _ _ _ y2
  have l1 : w1.cell? ⟨w.heap.size + 1 + 1, 1, none⟩ = some (I S) := cell_of_row w1 _ 1 _ _ _ y2
  have hb1 : Below w.heap.size w w1 := by rw [hw1]; exact three_boxes' _ _ _ _
  have s1 : w.heap.size + 1 + 1 < w1.heap.size := by rw [hw1]; simp
  have hx1 := cls_call hb1 hx
  have hT1 := hT.below hb1
  have Y1 := Lib.hid y1
  have Y2 := Lib.hid y2
  clear hw1 y1 y2 hx hT
  go_cut [9] from 12 to 40 (fun s9 wx => s9 = I (cntE W S cs) ∧ KeptS w1 wx)
  case first =>
    go_region_held3 (fun w' => Below w1.heap.size w1 w' ∧ (∀ b o, b < w1.heap.size → w'.cell? ⟨b, o, none⟩ = w1.cell? ⟨b, o, none⟩))
      (first | exact keptS_drew _ | exact keptS_call (by assumption) hb | exact keptS_alloc (by assumption) _ | assumption)
      (first
        | (go_at_call 61; refine (lockCheck_any _ _ _).mono ?_; rintro e w' ⟨rfl, hb⟩)
        | (go_at_call 73; go_must (refine (checkClues_any _ _ _ _ _ cs _ ?_ ?_ hl).mono ?_); go_must (exact hT1.below (And.left (by assumption : KeptS w1 _))); go_must (exact cls_call (And.left (by assumption : KeptS w1 _)) hx1); rintro e w' ⟨rfl, hb⟩)
        | (go_at_call 63; go_must (refine (first_any _ _ [lockErr W S, cluesErr W S 20 cs] _ ?_ ?_).mono ?_); go_must (exact ints_new _ [lockErr W S, cluesErr W S 20 cs] _); go_must (simp [maxLen]); rintro e w' ⟨rfl, rfl⟩))
    all_goals
      go_wp2_with fail
      go_meet
      exact ⟨rfl, by assumption⟩
  case rest =>
    obtain ⟨rfl, hk⟩ := hcut
    have hkb := hk.1
    have hx2 := cls_call hkb hx1
    have hbc : Below w.heap.size w wc := hb1.trans (hkb.mono (by omega))
    have t0 : w.heap.size + 1 + 1 < wc.heap.size := by have := hkb.size; omega
    have y1 := (hkb.block _ (by omega)).trans Y1.out
    have y2 := (hkb.block _ (by omega)).trans Y2.out
    clear hk hkb hx1 hT1 l0 l1 Y1 Y2 s1
    have Y1 := Lib.hid y1
    have Y2 := Lib.hid y2
    clear y1 y2
    by_cases he : cntE W S cs = 0
    · have hb0 : (cntE W S cs != 0) = false := by simp [he]
      obtain ⟨W', S', rfl, rfl, hW, hW4, hS, hS10, hC⟩ := cntE_nat he
      have HE := Lib.hid he
      clear he
      have m0 : wc.cell? ⟨w.heap.size + 1, 0, none⟩ = some (I most) := cell_of_row wc _ 0 _ _ _ Y1.out
      have l0 : wc.cell? ⟨w.heap.size + 1 + 1, 0, none⟩ = some (I W') := cell_of_row wc _ 0 _ _ _ Y2.out
      have l1 : wc.cell? ⟨w.heap.size + 1 + 1, 1, none⟩ = some (I S') := cell_of_row wc _ 1 _ _ _ Y2.out
      cases hwi : wi most 1 64
      · have hr : rdE W' S' cs most = 1 := by rw [rdE, if_pos HE.out, hwi]; rfl
        have HR := Lib.hid hr
        have HL := Lib.hid (show rdL W' S' cs most = [] from if_neg (by rw [hr]; decide))
        clear hr
        go_wp2_with fail
        refine (within_any _ _ _ _).mono ?_
        rw [hwi]
        rintro e w3 ⟨rfl, rfl⟩
        go_wp2
        refine ⟨_, results_tmp2 rfl _ _ _, none, 0, by rw [HR.out, HL.out]; rfl, by rw [HL.out]; exact fun h => absurd h (Nat.lt_irrefl 0), by rw [HL.out]; exact Nat.zero_le _, hbc⟩
      · have hr : rdE W' S' cs most = 0 := by rw [rdE, if_pos HE.out, hwi]; rfl
        have hm : 1 ≤ most ∧ most ≤ 64 := by simpa [wi] using hwi
        obtain ⟨m, rfl⟩ : ∃ m : Nat, most = m := ⟨most.toNat, by omega⟩
        have HR := Lib.hid hr
        have HL := Lib.hid (show rdL W' S' cs m = (readings W' S' cs).take m from (if_pos hr).trans (by simp))
        clear hr
        go_wp2_with fail
        refine (within_any _ _ _ _).mono ?_
        rw [hwi]
        rintro e w3 ⟨rfl, rfl⟩
        go_wp2_with fail
        refine (readings_any _ _ _ _ _ _).mono ?_
        rintro e w' ⟨rfl, rfl⟩
        go_wp2_with fail
        obtain ⟨w2, hw2⟩ : ∃ w2, w2 = (((wc.alloc (.cells #[.slice none 0 0] 44)).alloc (.cells #[I W', I S'] 78)).alloc (.cells #[.slice A cs.length c] 38)) := ⟨_, rfl⟩
        rw [← hw2]
        have hc2 : Below wc.heap.size wc w2 := by rw [hw2]; exact three_boxes' _ _ _ _
        have hs2 : w2.heap.size = wc.heap.size + 3 := by rw [hw2]; simp
        have hn2 : w2.heap[wc.heap.size]? = some (.cells #[.slice none 0 0] 44 (0, 0)) := by
          rw [hw2]; exact (Below.heap_alloc _ _ _ (by simp; omega)).trans ((Below.heap_alloc _ _ _ (by simp)).trans (alloc_obj _ _ _ rfl))
        have hl2 : w2.heap[wc.heap.size + 1]? = some (.cells #[I W', I S'] 78 (0, 0)) := by
          rw [hw2]; exact (Below.heap_alloc _ _ _ (by simp)).trans (alloc_obj _ _ _ (by simp))
        have hd2 : w2.heap[wc.heap.size + 1 + 1]? = some (.cells #[.slice A cs.length c] 38 (0, 0)) := by
          rw [hw2]; exact alloc_obj _ _ _ (by simp)
        have hbd2 : Below w.heap.size w w2 := hbc.trans (hc2.mono (by omega))
        have y1 := (hc2.block _ (by omega)).trans Y1.out
        have y2 := (hc2.block _ (by omega)).trans Y2.out
        have Y1 := Lib.hid y1
        have Y2 := Lib.hid y2
        have LR := Lib.hid hl2
        have DR := Lib.hid hd2
        have hx3 := hx2.below hc2 (Nat.le_refl _)
        have t0 : w.heap.size + 1 + 1 < w2.heap.size := by omega
        clear hw2 l0 l1 m0 y1 y2 hl2 hd2 hx2
        have hmem := fun x (h : x ∈ readings W' S' cs) => rd_mem hS hS10 h
        have HBD := Lib.hid (rd_bound hW4 hS10 cs)
        refine wpIn_wide.1 (wpIn_loopD (n := 20) rfl (by omega) (gf := 109) (fa := #[]) (lb := #[.pointer (some ⟨wc.heap.size + 1, 0, none⟩), .pointer (some ⟨wc.heap.size + 1 + 1, 0, none⟩)]) rfl trivial (enters_of Tryd.func109 (by kernel_rfl) rfl) (enc := rowV) (xs := readings W' S' cs) 5
          (fun V hV hG _ => readings_iterD W' S' hW hW4 hS hS10 cs hC hl A c (wc.heap.size + 1) (wc.heap.size + 1 + 1) _ (by omega) w2.heap.size wc.heap.size (by omega) V hV.size (by omega) (by omega)) rfl
          (fun j V => j < m ∧ (∃ v, V.heap[wc.heap.size]? = some (.cells #[v] 44 (0, 0)) ∧ Lists V (w2.heap.size + 7) v ((readings W' S' cs).take j)) ∧ w2.grownBy V (some wc.heap.size))
          (fun cd j V => cd = .exit 0 ∧ j = m ∧ (∃ v, V.heap[wc.heap.size]? = some (.cells #[v] 44 (0, 0)) ∧ Lists V (w2.heap.size + 7) v ((readings W' S' cs).take j)) ∧ w2.grownBy V (some wc.heap.size))
          ?closed ?closedx ?toG ⟨by omega, ⟨_, hn2, Lists.nil _ _⟩, World.grownBy.refl _ _⟩ ?round ?done ?stop)
        case closed =>
          rintro j X Y ⟨h0, ⟨v, h1, h2⟩, h3⟩ hb
          exact ⟨h0, ⟨v, (hb.low.block _ (by omega)).trans h1, h2.keepD hb⟩, low_grown h3 hb.low⟩
        case closedx =>
          rintro cd j X Y ⟨e, h0, ⟨v, h1, h2⟩, h3⟩ hb
          exact ⟨e, h0, ⟨v, (hb.low.block _ (by omega)).trans h1, h2.keepD hb⟩, low_grown h3 hb.low⟩
        case toG =>
          rintro j X ⟨-, -, h⟩
          have c0 := (h.block (wc.heap.size + 1) (by omega) (fun e => by injection e with e; omega)).trans LR.out
          have c1 := (h.block (wc.heap.size + 1 + 1) (by omega) (fun e => by injection e with e; omega)).trans DR.out
          exact ⟨cell_of_row X _ 0 _ _ _ c0, cell_of_row X _ 1 _ _ _ c0, cell_of_row X _ 0 _ _ _ c1, hx3.below (below_grown h (by omega)) (Nat.le_refl _), h.size⟩
        case round =>
          rintro l j hj X hl1 hl2 hl3 ⟨h0, ⟨v, h1, hLs⟩, hX⟩
          obtain ⟨x1, x2, _, _, _⟩ := hmem _ (List.getElem_mem hj)
          have hsn : (readings W' S' cs).take (j + 1) = (readings W' S' cs).take j ++ [(readings W' S' cs)[j]] := List.take_succ_eq_append_getElem hj
          have hjl : ((readings W' S' cs).take j).length = j := by simp; omega
          generalize hx0 : (readings W' S' cs)[j] = x at *
          have HSN := Lib.hid hsn
          have HJL := Lib.hid hjl
          have HX1 := Lib.hid x1
          clear hx0 hsn hjl x1 x2 hmem
          gi_wp2
          refine ⟨(Below.refl _ _).alloc (Nat.le_refl _) _, fun o => ?_⟩
          obtain ⟨Y, hYd⟩ : ∃ Y, Y = (X.alloc (.cells #[I (nth x 0), I (nth x 1), I (nth x 2), I (nth x 3)] 87)).putObj l o := ⟨_, rfl⟩
          rw [← hYd]
          have hXY : Below w2.heap.size X Y := by
            rw [hYd]; exact ((Below.refl _ _).alloc (by omega) _).trans (below_putObj _ _ hl1)
          have hXYD : BelowD w2.heap.size (w2.heap.size + 7) X Y := by
            rw [hYd]; exact (BelowD.of_below ((Below.refl _ _).alloc (Nat.le_refl _) _) (Nat.le_refl _) (by omega)).trans (.putObj _ _ hl1 (by omega))
          have hrY : Y.heap[X.heap.size]? = some (.cells #[I (nth x 0), I (nth x 1), I (nth x 2), I (nth x 3)] 87 (0, 0)) := by
            rw [hYd]; exact (World.putObj_heap_other (by omega)).trans (alloc_obj _ _ _ rfl)
          have hY := low_grown hX hXY
          have hsY : X.heap.size < Y.heap.size := row_lt' hrY
          have hLY := hLs.keepD hXYD
          have y0 := (hXY.block _ (by omega)).trans h1
          have y1 := (hY.block (w.heap.size + 1) (by omega) (fun e => by injection e with e; omega)).trans Y1.out
          have y2 := (hY.block (w.heap.size + 1 + 1) (by omega) (fun e => by injection e with e; omega)).trans Y2.out
          clear hYd h1 hLs
          have b0 : Y.cell? ⟨wc.heap.size, 0, none⟩ = some v := cell_of_row Y _ 0 _ _ _ y0
          have bf := frozen_of_row y0 0
          have m0 : Y.cell? ⟨w.heap.size + 1, 0, none⟩ = some (I m) := cell_of_row Y _ 0 _ _ _ y1
          have l0 : Y.cell? ⟨w.heap.size + 1 + 1, 0, none⟩ = some (I W') := cell_of_row Y _ 0 _ _ _ y2
          have l1 : Y.cell? ⟨w.heap.size + 1 + 1, 1, none⟩ = some (I S') := cell_of_row Y _ 1 _ _ _ y2
          have r0 : Y.cell? ⟨X.heap.size, 0, none⟩ = some (I (nth x 0)) := cell_of_row Y _ 0 _ _ _ hrY
          have r1 : Y.cell? ⟨X.heap.size, 1, none⟩ = some (I (nth x 1)) := cell_of_row Y _ 1 _ _ _ hrY
          have r2 : Y.cell? ⟨X.heap.size, 2, none⟩ = some (I (nth x 2)) := cell_of_row Y _ 2 _ _ _ hrY
          have r3 : Y.cell? ⟨X.heap.size, 3, none⟩ = some (I (nth x 3)) := cell_of_row Y _ 3 _ _ _ hrY
          have H0 := Lib.hid y0
          have H1 := Lib.hid y1
          have H2 := Lib.hid y2
          have HRY := Lib.hid hrY
          clear y0 y1 y2 hrY hx3 hn2
          gi_upto_region 10 with fail
          refine wpIn_region_inv (by kernel_rfl) (by intro o ho c; simp only [List.mem_toArray, List.mem_cons, List.not_mem_nil, or_false] at ho; rcases ho with rfl | rfl | rfl | rfl | rfl | rfl | rfl <;> simp) (fun L a w' => L.size = 7 ∧ ∃ (ph : Nat) (v30 v31 v32 v33 v34 v35 : Value), a = { tmps := #[lockV W' S', Value.slice A cs.length c, Value.int .i64 m, Value.pointer (some ⟨w.heap.size, 0, none⟩), undef, Value.pointer (some ⟨w.heap.size + 1, 0, none⟩), Value.slice none 0 0, Value.int .i64 0, Value.pointer (some ⟨w.heap.size + 1 + 1, 0, none⟩), I (cntE W' S' cs), Value.pointer (some ⟨wc.heap.size, 0, none⟩), Value.pointer (some ⟨X.heap.size, 0, none⟩), u12, u13, u14, u15, u16, u17, u18, u19, I (cntE W' S' cs), Value.bool false, u22, I m, Value.bool true, Value.bool false, Value.agg #[I W', I S'], Value.slice A cs.length c, Value.func (Fn.func 109) #[] #[Value.pointer (some ⟨wc.heap.size + 1, 0, none⟩), Value.pointer (some ⟨wc.heap.size + 1 + 1, 0, none⟩)], rowV x, v30, v31, v32, v33, v34, v35, u36, u37, u38, u39, u40], defers := [] } ∧ (L.getD 0 false = true → v30 = v) ∧ (L.getD 1 false = true → v31 = lockV W' S') ∧ (L.getD 2 false = true → v32 = rowV x) ∧ L.getD 3 false = decide (1 ≤ ph) ∧ L.getD 4 false = decide (2 ≤ ph) ∧ L.getD 5 false = decide (3 ≤ ph) ∧ L.getD 6 false = decide (4 ≤ ph) ∧ ph ≤ 4 ∧ (1 ≤ ph → L.getD 1 false = true ∧ L.getD 2 false = true) ∧ (3 ≤ ph → L.getD 0 false = true) ∧ RdP w2 Y (w2.heap.size + 7) wc.heap.size v x ((readings W' S' cs).take j) ph v33 v34 v35 w') ?h0 ?hs ?hd
          case h0 => exact ⟨by simp, 0, u30, u31, u32, u33, u34, u35, rfl, by simp, by simp, by simp, by simp, by simp, by simp, by simp, by omega, by omega, by omega, (Below.refl _ _).drew⟩
          case hs =>
            rintro i L a w' ⟨hL, ph, v30, v31, v32, v33, v34, v35, rfl, g0, g1, g2, g3, g4, g5, g6, gp, ga, gb, hP⟩ hi
            have hcases : i = 0 ∨ i = 1 ∨ i = 2 ∨ i = 3 ∨ i = 4 ∨ i = 5 ∨ i = 6 := by
              have : i < 7 := ready_lt hi
              omega
            rcases hcases with rfl | rfl | rfl | rfl | rfl | rfl | rfl
            · have hn := ready_not' hi (by omega)
              have hp3 : ph < 3 := by
                by_cases h : 3 ≤ ph
                · rw [gb h] at hn; cases hn
                · omega
              have hc : w'.cell? ⟨wc.heap.size, 0, none⟩ = some v := cell_of_row w' _ 0 _ _ _ (RdP_row hP hp3 H0.out)
              refine ⟨_, rfl, by rfl, opwp_val v (by go_simp) ?_⟩
              exact ⟨by simpa using hL, ph, v, v31, v32, v33, v34, v35, rfl, fun _ => rfl, fun h => g1 ((set_other (by decide)).symm.trans h), fun h => g2 ((set_other (by decide)).symm.trans h), (set_other (by decide)).trans g3, (set_other (by decide)).trans g4, (set_other (by decide)).trans g5, (set_other (by decide)).trans g6, gp, fun h => ⟨(set_other (by decide)).trans (ga h).1, (set_other (by decide)).trans (ga h).2⟩, fun h => set_same (by omega), hP⟩
            · have hn := ready_not' hi (by omega)
              have hp0 : ph = 0 := by
                by_cases h : 1 ≤ ph
                · rw [(ga h).1] at hn; cases hn
                · omega
              subst hp0
              have e0 := (Below.cell hP (p := ⟨w.heap.size + 1 + 1, 0, none⟩) (by show w.heap.size + 1 + 1 < _; omega)).trans l0
              have e1 := (Below.cell hP (p := ⟨w.heap.size + 1 + 1, 1, none⟩) (by show w.heap.size + 1 + 1 < _; omega)).trans l1
              refine ⟨_, rfl, by rfl, opwp_val (lockV W' S') (by go_simp) ?_⟩
              exact ⟨by simpa using hL, 0, v30, lockV W' S', v32, v33, v34, v35, rfl, fun h => g0 ((set_other (by decide)).symm.trans h), fun _ => rfl, fun h => g2 ((set_other (by decide)).symm.trans h), (set_other (by decide)).trans g3, (set_other (by decide)).trans g4, (set_other (by decide)).trans g5, (set_other (by decide)).trans g6, gp, fun h => ⟨set_same (by omega), (set_other (by decide)).trans (ga h).2⟩, fun h => (set_other (by decide)).trans (gb h), hP⟩
            · have hn := ready_not' hi (by omega)
              have hp0 : ph = 0 := by
                by_cases h : 1 ≤ ph
                · rw [(ga h).2] at hn; cases hn
                · omega
              subst hp0
              have e0 := (Below.cell hP (p := ⟨X.heap.size, 0, none⟩) hsY).trans r0
              have e1 := (Below.cell hP (p := ⟨X.heap.size, 1, none⟩) hsY).trans r1
              have e2 := (Below.cell hP (p := ⟨X.heap.size, 2, none⟩) hsY).trans r2
              have e3 := (Below.cell hP (p := ⟨X.heap.size, 3, none⟩) hsY).trans r3
              refine ⟨_, rfl, by rfl, opwp_val (rowV x) (by go_simp) ?_⟩
              exact ⟨by simpa using hL, 0, v30, v31, rowV x, v33, v34, v35, rfl, fun h => g0 ((set_other (by decide)).symm.trans h), fun h => g1 ((set_other (by decide)).symm.trans h), fun _ => rfl, (set_other (by decide)).trans g3, (set_other (by decide)).trans g4, (set_other (by decide)).trans g5, (set_other (by decide)).trans g6, gp, fun h => ⟨(set_other (by decide)).trans (ga h).1, set_same (by omega)⟩, fun h => (set_other (by decide)).trans (gb h), hP⟩
            · have hn := ready_not' hi (by omega)
              have d1 := ready_dep hi 1 (by kernel_rfl)
              have d2 := ready_dep hi 2 (by kernel_rfl)
              obtain rfl := g1 d1
              obtain rfl := g2 d2
              have hp0 : ph = 0 := by have := g3.symm.trans hn; simp at this; omega
              subst hp0
              have hP0 : Below Y.heap.size Y w' := hP
              refine ⟨_, rfl, by rfl, wp_call_fns (vs := #[lockV W' S', rowV x]) rfl (by simp [Act.eval]) (enters_of Tryd.func79 (by kernel_rfl) rfl) ((code_any W' S' hW4 x HX1.out w').mono ?_)⟩
              rintro e wv ⟨c', rfl, hown, hb⟩
              exact ⟨by simpa using hL, 1, v30, _, _, _, v34, v35, rfl, fun h => g0 ((set_other (by decide)).symm.trans h), fun h => g1 ((set_other (by decide)).symm.trans h), fun h => g2 ((set_other (by decide)).symm.trans h), (set_same (by omega)).trans rfl, (set_other (by decide)).trans g4, (set_other (by decide)).trans g5, (set_other (by decide)).trans g6, by omega, fun _ => ⟨(set_other (by decide)).trans d1, (set_other (by decide)).trans d2⟩, by omega, ⟨hP0.trans (hb.mono hP0.size), own_base hown (by have := hP0.size; have := hXY.size; omega)⟩⟩
            · have hn := ready_not' hi (by omega)
              have hp1 : ph = 1 := by
                have h1 := g3.symm.trans (ready_dep hi 3 (by kernel_rfl))
                have h2 := g4.symm.trans hn
                simp at h1 h2
                omega
              subst hp1
              obtain ⟨hP1, hP2⟩ := hP
              obtain ⟨Ac, cc, rfl, -, -⟩ := own_ints hP2
              refine ⟨_, rfl, by rfl, opwp_res (r := .ok (.value (.slice (some ⟨w'.heap.size, 0, none⟩) 1 1)) (w'.alloc (.cells #[.slice Ac x.length cc] 24))) (by go_simp) ?_⟩
              exact ⟨by simpa using hL, 2, v30, v31, v32, _, _, v35, rfl, fun h => g0 ((set_other (by decide)).symm.trans h), fun h => g1 ((set_other (by decide)).symm.trans h), fun h => g2 ((set_other (by decide)).symm.trans h), (set_other (by decide)).trans g3, (set_same (by omega)).trans rfl, (set_other (by decide)).trans g5, (set_other (by decide)).trans g6, by omega, fun _ => ⟨(set_other (by decide)).trans (ga (by omega)).1, (set_other (by decide)).trans (ga (by omega)).2⟩, by omega, ⟨w', hP1, hP2, rfl, rfl⟩⟩
            · have hn := ready_not' hi (by omega)
              have d0 := ready_dep hi 0 (by kernel_rfl)
              have hp2 : ph = 2 := by
                have h1 := g4.symm.trans (ready_dep hi 4 (by kernel_rfl))
                have h2 := g5.symm.trans hn
                simp at h1 h2
                omega
              subst hp2
              obtain rfl := g0 d0
              obtain ⟨wb, hb, hown, rfl, rfl⟩ := hP
              obtain ⟨vs, ho1, hin1⟩ := hLY.below hb (Nat.le_refl _)
              obtain ⟨i0, hi0, hz0, hz1, hz2⟩ := info_parts info_sl
              obtain ⟨Ac, cc, rfl, -, -⟩ := own_ints hown
              refine ⟨_, rfl, by rfl, wp_append_own _ (.tmp 30) (.tmp 34) 44 rfl (w2.heap.size + 7) 24 i0 (.slice none 0 0) 1 24 Tryd.underlying44 hi0 hz0 hz1 hz2 rfl (by decide) _ _ vs rfl (ho1.alloc _) ⟨wb.heap.size, 0, none⟩ 1 1 [.slice Ac x.length cc] rfl rfl ?_ ?_ ?_ ?_ ?_ ?_⟩
              · intro q u hq
                match q, hq with
                | 0, hq => simp at hq; subst hq; simp [Addr.add]
              · intro u hu; simp at hu; subst hu; rfl
              · rw [HJL.out]; unfold maxLen; have := HBD.out; omega
              · rw [HJL.out]; have := HBD.out; omega
              · simp; have := hb.size; have := hXY.size; omega
              · intro v' w'' hown' hgrow _
                have hR := rd_after hY H0.out (by omega) (by omega) (by have := hXY.size; omega) hb hown ho1 hin1 hown' hgrow
                exact ⟨by simpa using hL, 3, _, v31, v32, _, _, _, rfl, fun h => g0 ((set_other (by decide)).symm.trans h), fun h => g1 ((set_other (by decide)).symm.trans h), fun h => g2 ((set_other (by decide)).symm.trans h), (set_other (by decide)).trans g3, (set_other (by decide)).trans g4, (set_same (by omega)).trans rfl, (set_other (by decide)).trans g6, by omega, fun _ => ⟨(set_other (by decide)).trans (ga (by omega)).1, (set_other (by decide)).trans (ga (by omega)).2⟩, fun _ => (set_other (by decide)).trans d0, hR⟩
            · have hn := ready_not' hi (by omega)
              have hp3 : ph = 3 := by
                have h1 := g5.symm.trans (ready_dep hi 5 (by kernel_rfl))
                have h2 := g6.symm.trans hn
                simp at h1 h2
                omega
              subst hp3
              have hR : RdR w2 Y (w2.heap.size + 7) wc.heap.size v ((readings W' S' cs).take j ++ [x]) v35 w' := hP
              obtain ⟨Ac, cc, rfl, -⟩ := hR.1.sls
              have hc : w'.cell? ⟨wc.heap.size, 0, none⟩ = some v := cell_of_row w' _ 0 _ _ _ hR.2.1
              have hf := frozen_of_row hR.2.1 0
              refine ⟨_, rfl, by rfl, opwp_res (r := .ok .skip (w'.setCell ⟨wc.heap.size, 0, none⟩ (.slice Ac ((readings W' S' cs).take j ++ [x]).length cc))) (by go_simp) ?_⟩
              exact ⟨by simpa using hL, 4, v30, v31, v32, v33, v34, _, rfl, fun h => g0 ((set_other (by decide)).symm.trans h), fun h => g1 ((set_other (by decide)).symm.trans h), fun h => g2 ((set_other (by decide)).symm.trans h), (set_other (by decide)).trans g3, (set_other (by decide)).trans g4, (set_other (by decide)).trans g5, (set_same (by omega)).trans rfl, by omega, fun _ => ⟨(set_other (by decide)).trans (ga (by omega)).1, (set_other (by decide)).trans (ga (by omega)).2⟩, fun _ => (set_other (by decide)).trans (gb (by omega)), ⟨w', hR, rfl⟩⟩
          case hd =>
            rintro L a w' ⟨hL, ph, v30, v31, v32, v33, v34, v35, rfl, g0, g1, g2, g3, g4, g5, g6, gp, ga, gb, hP⟩ hr
            have hall := all_listed hL (by kernel_rfl) hr
            obtain rfl := g0 (hall 0 (by decide))
            obtain rfl := g1 (hall 1 (by decide))
            obtain rfl := g2 (hall 2 (by decide))
            have h4 : ph = 4 := by have := (hall 6 (by decide)).symm.trans g6; simp at this; omega
            subst h4
            obtain ⟨wr, hR, rfl⟩ := hP
            obtain ⟨Ac, cc, rfl, -⟩ := hR.1.sls
            have hlen : ((readings W' S' cs).take j ++ [x]).length = j + 1 := by rw [List.length_append, HJL.out]; rfl
            rw [hlen]
            obtain ⟨r1, r2, r3, r4, r5⟩ := hR
            rw [hlen] at r1
            obtain ⟨Z, hZ⟩ : ∃ Z, Z = wr.setCell ⟨wc.heap.size, 0, none⟩ (.slice Ac (j + 1) cc) := ⟨_, rfl⟩
            rw [← hZ]
            have hzr : Z.heap[wc.heap.size]? = some (.cells #[.slice Ac (j + 1) cc] 44 (0, 0)) := by rw [hZ]; exact row_set r2 0 _
            have hzo : ∀ b, b ≠ wc.heap.size → Z.heap[b]? = wr.heap[b]? := fun b hb => by rw [hZ]; exact Below.heap_setCell _ _ _ _ hb
            have hzs : Z.heap.size = wr.heap.size := by rw [hZ]; simp [World.setCell]
            have hzl : Lists Z (w2.heap.size + 7) (.slice Ac (j + 1) cc) ((readings W' S' cs).take (j + 1)) := by
              rw [HSN.out]
              exact r1.keepD (lo := wc.heap.size) ⟨by rw [hZ]; exact (Below.refl _ _).setCell (p := ⟨wc.heap.size, 0, none⟩) (Nat.le_refl _) _, fun b h1 _ => hzo b (by omega)⟩
            have hzg : w2.grownBy Z (some wc.heap.size) := by
              refine ⟨?_, ?_, ?_, by rw [hzs]; exact r3.size, fun k hk hn => (hzo k (fun e => hn (by rw [e]))).trans (r3.block k hk hn)⟩
              · rw [hZ]; exact r3.os
              · rw [hZ]; exact r3.tape
              · rw [hZ]; exact r3.output
            have hzk : KeepMid w2.heap.size (w2.heap.size + 2 + 5) Y Z := ⟨by omega, fun b h1 h2 h3 => (hzo b (by omega)).trans (r4.same b h1 h2 h3)⟩
            have b0 : Z.cell? ⟨wc.heap.size, 0, none⟩ = some (.slice Ac (j + 1) cc) := cell_of_row Z _ 0 _ _ _ hzr
            have m0 : Z.cell? ⟨w.heap.size + 1, 0, none⟩ = some (I m) := cell_of_row Z _ 0 _ _ _ ((hzg.block (w.heap.size + 1) (by omega) (fun e => by injection e with e; omega)).trans Y1.out)
            have HZR := Lib.hid hzr
            clear hr hZ hzr hall g0 g1 g2 g3 g4 g5 g6 ga gb gp hL r1 r2 r3 r4 r5
            by_cases hjm : j + 1 = m
            · have hb5 : (((j + 1 : Nat) : Int) == (m : Int)) = true := by simp; omega
              gi_wp2
              exact ⟨hzk, rfl, hjm, ⟨_, HZR.out, hzl⟩, hzg⟩
            · have hb5 : (((j + 1 : Nat) : Int) == (m : Int)) = false := by simp; omega
              gi_wp2
              exact ⟨hzk, by omega, ⟨_, HZR.out, hzl⟩, hzg⟩
        case done =>
          rintro X ⟨h0, ⟨v, h1, hLs⟩, hX⟩ hK
          have HT := Lib.hid (show (readings W' S' cs).take m = (readings W' S' cs).take (readings W' S' cs).length by rw [List.take_length]; exact List.take_of_length_le (by omega))
          obtain ⟨Av, cv, rfl, -, hm9, -⟩ := hLs.sls
          have b0 : X.cell? ⟨wc.heap.size, 0, none⟩ = some (.slice Av ((readings W' S' cs).take (readings W' S' cs).length).length cv) := cell_of_row X _ 0 _ _ _ h1
          have HLS := Lib.hid hLs
          clear h1 hLs hx3 hn2 hmem
          go_wp2
          refine ⟨by simp, .inl ⟨_, _, rfl, run_takeDeferred hK, ?_⟩⟩
          obtain ⟨A3, c3, e3, h3, -⟩ := (HLS.out.keepD (BelowD.putObj (lo := w2.heap.size) X (.deferred none) (Nat.le_refl _) (by omega))).sls
          refine ⟨_, results_tmp2 rfl _ _ _, Av, cv, by rw [HR.out, HL.out, HT.out, List.take_length]; rfl, ?_, by rw [HL.out, HT.out]; exact hm9, hbd2.trans ((below_grown hX (by omega)).trans (below_putObj _ _ (by omega)) |>.mono (by omega))⟩
          rw [HL.out, HT.out]
          injection e3 with e3 _ _
          rw [e3]
          exact h3
        case stop =>
          rintro cd j X j0 j1 ⟨rfl, rfl, ⟨v, h1, hLs⟩, hX⟩ hK
          have hlj : ((readings W' S' cs).take j).length = j := by simp; omega
          obtain ⟨Av, cv, hv, -, hm9, -⟩ := hLs.sls
          rw [hlj] at hv
          subst hv
          have b0 : X.cell? ⟨wc.heap.size, 0, none⟩ = some (.slice Av j cv) := cell_of_row X _ 0 _ _ _ h1
          have HLS := Lib.hid hLs
          have HLJ := Lib.hid hlj
          clear h1 hLs hx3 hn2 hmem hlj
          gi_wp2
          go_wp2
          refine ⟨by simp, .inl ⟨_, _, rfl, run_takeDeferred hK, ?_⟩⟩
          obtain ⟨A3, c3, e3, h3, -⟩ := (HLS.out.keepD (BelowD.putObj (lo := w2.heap.size) X (.deferred none) (Nat.le_refl _) (by omega))).sls
          refine ⟨_, results_tmp2 rfl _ _ _, Av, cv, by rw [HR.out, HL.out, HLJ.out]; rfl, ?_, by rw [HL.out]; exact hm9, hbd2.trans ((below_grown hX (by omega)).trans (below_putObj _ _ (by omega)) |>.mono (by omega))⟩
          rw [HL.out]
          injection e3 with e3 _ _
          rw [e3]
          exact h3
    · have hb0 : (cntE W S cs != 0) = true := by simpa using he
      have hr : rdE W S cs most = cntE W S cs := if_neg he
      have HR := Lib.hid hr
      have HL := Lib.hid (show rdL W S cs most = [] from if_neg (by rw [hr]; exact he))
      clear hr he
      go_wp2
      refine ⟨_, results_tmp2 rfl _ _ _, none, 0, by rw [HR.out, HL.out]; rfl, by rw [HL.out]; exact fun h => absurd h (Nat.lt_irrefl 0), by rw [HL.out]; exact Nat.zero_le _, hbc⟩
end Go.Proofs.YthegmomjfbcabaaDoor
