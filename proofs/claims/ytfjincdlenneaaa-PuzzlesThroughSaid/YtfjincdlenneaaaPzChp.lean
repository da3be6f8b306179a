/-
  CONTRACT: cheapest, over any iterator of lists, by what 'used' costs.
-/
import Derived.Test.YtfjincdlenneaaaPzE
namespace Go.Proofs.Ytfjincdlenneaaa
open Go.RowKit Go.Shelf
attribute [local go_sem] Oper.semAt_some
theorem own_keepD {w w' : World} {lo hi s n : Nat} {e : TypeId} {v : Value} {xs : List Value} (h : w.ownsRow hi e s v n xs) (hb : BelowD lo hi w w') : w'.ownsRow hi e s v n xs := by
  refine ⟨h.1, ?_⟩
  rcases h.2 with h0 | ⟨g, cap, cur, h1, h2, h3, h4⟩
  · exact .inl h0
  · exact .inr ⟨g, cap, cur, h1, h2, (hb.high g h2 (Array.getElem?_eq_some_iff.1 h3).1).trans h3, h4⟩
theorem ints_drewN {w : World} {B : Nat} {A : Option Addr} {x : List Int} (h : IntsR w B A x) (n : Nat) : IntsR (w.drewN n) B A x := h
/-- the best of the first k -/
def bestL (cost : List Int → Nat) (xs : List (List Int)) : Nat → List Int
  | 0 => []
  | k + 1 => cheapAt cost xs k
theorem bestL_all (cost : List Int → Nat) (xs : List (List Int)) : bestL cost xs xs.length = cheap cost xs := by
  cases xs with
  | nil => rfl
  | cons x t => rfl
theorem bestL_one (cost : List Int → Nat) (xs : List (List Int)) : bestL cost xs 1 = xs.getD 0 [] := rfl
theorem bestL_succ (cost : List Int → Nat) (xs : List (List Int)) (k : Nat) (hk : 0 < k) : bestL cost xs (k + 1) = if cost (xs.getD k []) < cost (bestL cost xs k) then xs.getD k [] else bestL cost xs k := by
  obtain ⟨j, rfl⟩ : ∃ j, k = j + 1 := ⟨k - 1, by omega⟩
  exact cheapAt_succ cost xs j
theorem bestL_len {cost : List Int → Nat} {xs : List (List Int)} {n : Nat} (hxs : ∀ x ∈ xs, x.length = n) : ∀ k, k ≤ xs.length → 0 < k → (bestL cost xs k).length = n := by
  intro k
  induction k with
  | zero => intro _ h; omega
  | succ k ih =>
    intro hk _
    have h0 : (xs.getD k []).length = n := by
      rw [List.getD_eq_getElem?_getD, List.getElem?_eq_getElem (by omega)]
      exact hxs _ (List.getElem_mem _)
    rcases Nat.eq_zero_or_pos k with h | h
    · subst h; exact h0
    · rw [bestL_succ _ _ _ h]
      split
      · exact h0
      · exact ih (by omega) h
theorem three_boxes (w : World) (o0 o1 o2 : Obj) : ∃ w1, w1 = ((w.alloc o0).alloc o1).alloc o2 ∧ w1.heap.size = w.heap.size + 3 ∧ w1.heap[w.heap.size]? = some o0 ∧ w1.heap[w.heap.size + 1]? = some o1 ∧ w1.heap[w.heap.size + 1 + 1]? = some o2 ∧ Below w.heap.size w w1 := by
  refine ⟨_, rfl, by simp, ?_, ?_, alloc_obj _ _ _ (by simp), ?_⟩
  · exact (Below.heap_alloc _ _ _ (by simp <;> omega)).trans ((Below.heap_alloc _ _ _ (by simp <;> omega)).trans (alloc_obj _ _ _ rfl))
  · exact (Below.heap_alloc _ _ _ (by simp <;> omega)).trans (alloc_obj _ _ _ (by simp <;> omega))
  · exact ((Below.refl _ _).alloc (Nat.le_refl _) _).alloc (by simp <;> omega) _ |>.alloc (by simp <;> omega) _

theorem store2 {Z : World} {g1 g2 : Nat} {a b : Value} {t1 t2 : TypeId} (h1 : Z.heap[g1]? = some (.cells #[a] t1 (0, 0))) (h2 : Z.heap[g2]? = some (.cells #[b] t2 (0, 0))) (hne : g1 ≠ g2) (u1 u2 : Value) :
    ∃ W, W = (Z.setCell ⟨g1, 0, none⟩ u1).setCell ⟨g2, 0, none⟩ u2 ∧ W.heap[g1]? = some (.cells #[u1] t1 (0, 0)) ∧ W.heap[g2]? = some (.cells #[u2] t2 (0, 0)) ∧ W.heap.size = Z.heap.size ∧ (∀ b, b ≠ g1 → b ≠ g2 → W.heap[b]? = Z.heap[b]?) ∧ ∀ B, B ≤ g1 → B ≤ g2 → Below B Z W := by
  have e1 := row_set h1 0 u1
  have e2 : (Z.setCell ⟨g1, 0, none⟩ u1).heap[g2]? = some (.cells #[b] t2 (0, 0)) := (Below.heap_setCell _ _ _ _ (fun e => hne e.symm)).trans h2
  refine ⟨_, rfl, (Below.heap_setCell _ _ _ _ hne).trans e1, row_set e2 0 u2, by simp [World.setCell], fun b h3 h4 => (Below.heap_setCell _ _ _ _ h4).trans (Below.heap_setCell _ _ _ _ h3), fun B h3 h4 => ((Below.refl _ _).setCell (p := ⟨g1, 0, none⟩) h3 _).setCell (p := ⟨g2, 0, none⟩) h4 _⟩
theorem used_n (A : Option Addr) (c n : Nat) (ss : List Int) (hn : ss.length = n) (hl : n ≤ 1000) (w : World) (hx : IntsR w w.heap.size A ss) (k : Nat) :
    Calls Try.prog 90 #[.slice A n c] (w.drewN k) fun e w' => e = .returned (I (usedL ss : Nat)) ∧ w' = w.drewN k := by
  subst hn
  exact used_any A c ss _ hx (by unfold maxLen; omega)
theorem clone_n (ad : Addr) (c n : Nat) (l : List Int) (hn : l.length = n) (hl : n ≤ 1000) (w : World) (hx : IntsR w w.heap.size (some ad) l) (k : Nat) :
    Calls Try.prog 115 #[.slice (some ad) n c] (w.drewN k) fun e w' => ∃ v, e = .returned v ∧ w'.ownsRow w.heap.size 3 1 v l.length (l.map I) ∧ Below w.heap.size w w' := by
  subst hn
  refine (clone_any ad c l (w.drewN k) hx hl).mono ?_
  rintro e w' ⟨v, h1, h2, h3⟩
  exact ⟨v, h1, h2, ⟨h3.os, h3.tape, h3.output, h3.size, h3.block⟩⟩

set_option maxRecDepth 100000 in
set_option maxHeartbeats 2000000 in
theorem cheapest_used {gf : Nat} {fa lb : Array Value} (eg : Enters Try.prog gf) {n : Nat} {xs : List (List Int)} (hxs : ∀ x ∈ xs, x.length = n) (hn : n ≤ 1000) (off d : Nat) (_hod : off < d) {G : World → Prop} (w : World) (_hm : xs.length ≤ 1000000)
    (hseq : ∀ W, w.heap.size ≤ W.heap.size → IterR Fence.wide 19 Try.prog gf fa lb xs.length (lstE (W.heap.size + off) n xs) G d W) (hG : ∀ A, Below w.heap.size w A → G A) :
    Calls Try.prog 88 #[.func (.func gf) fa lb, .func (.func 90) #[] #[]] w fun e w' => ∃ A c, e = .returned (.tuple #[.slice A (cheap usedL xs).length c, .bool (decide (0 < xs.length))]) ∧ IntsR w' w'.heap.size A (cheap usedL xs) ∧ (cheap usedL xs).length ≤ maxLen ∧ Below w.heap.size w w' := by
  refine (callsIn_wide (n := 20)).1 (callsIn_of_wp_marks Try.func88 rfl trivial ?_ rfl)
  rw [wpIn_wide]
  simp only [Try.ntmps88, List.size_toArray, List.length_cons, List.length_nil, Nat.reduceAdd, Nat.reduceSub, Array.replicate_succ, Array.replicate_zero, List.push_toArray, List.append_toArray, List.nil_append, List.cons_append]
  go_wp2_with fail
  obtain ⟨w2, hw2, hs2, y0, y1, y2, hb2⟩ := three_boxes w (.cells #[.func (.func 90) #[] #[]] 69) (.cells #[.slice none 0 0] 29) (.cells #[.bool false] 4)
  rw [← hw2]
  clear hw2
  refine wpIn_wide.1 (wpIn_loopR (n := 20) rfl (by omega) (gf := gf) (fa := fa) (lb := lb) rfl trivial eg (m := xs.length) (E := fun s => lstE (s + off) n xs) (G := G) d
    (fun V hV _ _ => hseq V (by have := hV.size; omega)) rfl
    (fun k V => V.heap[w.heap.size]? = some (.cells #[.func (.func 90) #[] #[]] 69 (0, 0)) ∧ V.heap[w.heap.size + 1 + 1]? = some (.cells #[.bool (decide (0 < k))] 4 (0, 0)) ∧
      (∃ vb, V.heap[w.heap.size + 1]? = some (.cells #[vb] 29 (0, 0)) ∧ V.ownsRow (w2.heap.size + 2 + d) 3 1 vb (bestL usedL xs k).length ((bestL usedL xs k).map I)) ∧ Below w.heap.size w V)
    (fun _ _ _ => False)
    ?closed (fun _ _ _ _ h _ => h.elim) (fun k A h => hG A h.2.2.2) ⟨y0, y2, ⟨_, y1, World.ownsRow_nil _ _ _ _⟩, hb2⟩ ?round ?done (fun _ _ _ _ _ h _ => h.elim))
  case closed =>
    rintro k X Y ⟨h1, h2, ⟨vb, h3, h4⟩, h5⟩ hb
    exact ⟨(hb.low.block _ (by omega)).trans h1, (hb.low.block _ (by omega)).trans h2, ⟨vb, (hb.low.block _ (by omega)).trans h3, own_keepD h4 hb⟩, h5.trans (hb.low.mono (by omega))⟩
  case round =>
    rintro l k hk X v hl1 hl2 hl3 ⟨h1, h2, ⟨vb, h3, h4⟩, h5⟩ ⟨rfl, hrX⟩
    gi_wp2
    refine ⟨Below.refl _ _, fun o => ?_⟩
    obtain ⟨Y, hYd⟩ : ∃ Y, Y = X.putObj l o := ⟨_, rfl⟩
    rw [← hYd]
    have hXY : Below w2.heap.size X Y := by rw [hYd]; exact below_putObj _ _ hl1
    have z0 := (hXY.block _ (by omega)).trans h1
    have z1 := (hXY.block _ (by omega)).trans h3
    have z2 := (hXY.block _ (by omega)).trans h2
    have hbY : Below w.heap.size w Y := h5.trans (hXY.mono (by omega))
    have hown := own_keepD h4 (.putObj (lo := w2.heap.size) X o hl1 (by omega))
    rw [← hYd] at hown
    have hrY : Y.heap[w2.heap.size + 2 + off]? = some (.cells ((xs.getD k []).map I).toArray 3 (0, 0)) := by
      rw [hYd]; exact (World.putObj_heap_other (by omega)).trans hrX
    have hszY := row_lt' hrY
    have c0 : Y.cell? ⟨w.heap.size, 0, none⟩ = some (.func (.func 90) #[] #[]) := cell_of_row Y _ 0 _ _ _ z0
    have c1 : Y.cell? ⟨w.heap.size + 1, 0, none⟩ = some vb := cell_of_row Y _ 0 _ _ _ z1
    have c2 : Y.cell? ⟨w.heap.size + 1 + 1, 0, none⟩ = some (.bool (decide (0 < k))) := cell_of_row Y _ 0 _ _ _ z2
    have hsY : w2.heap.size + 2 + d ≤ Y.heap.size := by rw [hYd]; simpa using hl3
    clear hYd h1 h2 h3 h4 h5 y0 y1 y2 hrX
    obtain ⟨x, hx⟩ : ∃ x, x = xs.getD k [] := ⟨_, rfl⟩
    have hxl : x.length = n := by
      rw [hx, List.getD_eq_getElem?_getD, List.getElem?_eq_getElem hk]
      exact hxs _ (List.getElem_mem _)
    have hix : IntsR Y Y.heap.size (some ⟨w.heap.size + 3 + 2 + off, 0, none⟩) x := by
      rw [← hx, hs2] at hrY
      exact ints_row hrY (by omega)
    have HXL := Lib.hid hxl
    clear hrY hxl
    by_cases hk0 : k = 0
    · subst hk0
      have HB : Hid (bestL usedL xs (0 + 1) = x) := Lib.hid (by rw [hx]; rfl)
      rw [show decide (0 < 0) = false from rfl] at c2
      obtain ⟨A9, c9, b, hbn, hib⟩ : ∃ (A9 : Option Addr) (c9 : Nat) (b : List Int), b.length ≤ 1000 ∧ IntsR Y Y.heap.size A9 b := ⟨none, 0, [], Nat.zero_le _, IntsR.nil⟩
      clear hown hxs hseq hG hx
      gi_upto_region 3 with fail
      refine wpInR_region_quiet (by kernel_rfl) (by kernel_rfl) (by intro o ho c; simp only [List.mem_cons, List.not_mem_nil, or_false] at ho; rcases ho with rfl | rfl | rfl | rfl | rfl | rfl | rfl | rfl | rfl | rfl | rfl <;> simp) (by rintro ⟨_, _, h⟩; exact h) ?_
      repeat (go_big_quiet_step ((first
        | (go_at_call 90; with_reducible exact Calls.quiet_of_same (used_n (some ⟨w.heap.size + 3 + 2 + off, 0, none⟩) n n x HXL.out hn Y hix _))
        | (go_at_call 90; with_reducible exact Calls.quiet_of_same (used_n A9 c9 _ b rfl hbn Y hib _)))))
      refine wpQuiet_nil ?_
      intro _ hw'
      obtain ⟨nq, hw''⟩ := hw'
      subst hw''
      gi_wp2_with fail
      refine ⟨trivial, ?_⟩
      refine (CallsIn.inRound l (callsIn_wide.2 (clone_n ⟨w.heap.size + 3 + 2 + off, 0, none⟩ n n x HXL.out hn Y hix nq))).mono ?_
      rintro e Z ⟨v', rfl, hown', hbZ⟩
      obtain ⟨A8, c8, rfl, -, -⟩ := own_ints hown'
      have zz1 := (hbZ.block _ (by omega)).trans z1
      have zz2 := (hbZ.block _ (by omega)).trans z2
      have zz0 := (hbZ.block _ (by omega)).trans z0
      have d1 := cell_of_row Z _ 0 _ _ _ zz1
      have d2 := cell_of_row Z _ 0 _ _ _ zz2
      have f1 := frozen_of_row zz1 0
      have f2 := frozen_of_row zz2 0
      have Z0 := Lib.hid zz0
      have Z1 := Lib.hid zz1
      have Z2 := Lib.hid zz2
      have OWN := Lib.hid hown'
      have hsZ := hbZ.size
      clear zz0 zz1 zz2 hown' c0 c1 c2 z0 z1 z2
      gi_wp2
      obtain ⟨W, hW, r1, r2, rs, ro, rb⟩ := store2 Z1.out Z2.out (by omega) (.slice A8 x.length c8) (.bool true)
      rw [← hW]
      refine ⟨⟨by omega, fun b e1 e2 e3 => (ro b (by omega) (by omega)).trans (hbZ.block b e3)⟩, (ro _ (by omega) (by omega)).trans Z0.out, by rw [r2]; simp, ⟨_, r1, ?_⟩, hbY.trans ((hbZ.mono (by omega)).trans (rb _ (by omega) (by omega)))⟩
      rw [HB.out]
      exact own_keepD (lo := w.heap.size) (own_base OWN.out hsY) ⟨rb _ (by omega) (by omega), fun b e1 e2 => ro b (by omega) (by omega)⟩
    · have hk1 : 0 < k := by omega
      have hdk : decide (0 < k) = true := by simpa using hk1
      have hbl := bestL_len (cost := usedL) hxs k (by omega) hk1
      have hsucc := bestL_succ usedL xs k hk1
      rw [← hx] at hsucc
      obtain ⟨A9, c9, rfl, hib, -⟩ := own_ints hown
      obtain ⟨b, hb⟩ : ∃ b, b = bestL usedL xs k := ⟨_, rfl⟩
      rw [← hb] at c1 z1 hib hown hbl hsucc
      have hbn : b.length ≤ 1000 := by omega
      rw [hdk] at c2
      have HO := Lib.hid hown
      have HBE := Lib.hid hb
      clear hown hxs hseq hG hdk hb hx hbl
      by_cases hlt : usedL x < usedL b
      · have HB : Hid (bestL usedL xs (k + 1) = x) := Lib.hid (by rw [hsucc, if_pos hlt])
        have g1 : decide ((usedL x : Int) < (usedL b : Int)) = true := by simpa using hlt
        have g2 : decide (usedL x < usedL b) = true := by simpa using hlt
        clear hsucc
        gi_upto_region 3 with fail
        refine wpInR_region_quiet (by kernel_rfl) (by kernel_rfl) (by intro o ho c; simp only [List.mem_cons, List.not_mem_nil, or_false] at ho; rcases ho with rfl | rfl | rfl | rfl | rfl | rfl | rfl | rfl | rfl | rfl | rfl <;> simp) (by rintro ⟨_, _, h⟩; exact h) ?_
        repeat (go_big_quiet_step ((first
          | (go_at_call 90; with_reducible exact Calls.quiet_of_same (used_n (some ⟨w.heap.size + 3 + 2 + off, 0, none⟩) n n x HXL.out hn Y hix _))
          | (go_at_call 90; with_reducible exact Calls.quiet_of_same (used_n A9 c9 _ b rfl hbn Y hib _)))))
        refine wpQuiet_nil ?_
        intro _ hw'
        obtain ⟨nq, hw''⟩ := hw'
        subst hw''
        gi_wp2_with fail
        refine ⟨trivial, ?_⟩
        refine (CallsIn.inRound l (callsIn_wide.2 (clone_n ⟨w.heap.size + 3 + 2 + off, 0, none⟩ n n x HXL.out hn Y hix nq))).mono ?_
        rintro e Z ⟨v', rfl, hown', hbZ⟩
        obtain ⟨A8, c8, rfl, -, -⟩ := own_ints hown'
        have zz1 := (hbZ.block _ (by omega)).trans z1
        have zz2 := (hbZ.block _ (by omega)).trans z2
        have zz0 := (hbZ.block _ (by omega)).trans z0
        have d1 := cell_of_row Z _ 0 _ _ _ zz1
        have d2 := cell_of_row Z _ 0 _ _ _ zz2
        have f1 := frozen_of_row zz1 0
        have f2 := frozen_of_row zz2 0
        have Z0 := Lib.hid zz0
        have Z1 := Lib.hid zz1
        have Z2 := Lib.hid zz2
        have OWN := Lib.hid hown'
        have hsZ := hbZ.size
        clear zz0 zz1 zz2 hown' c0 c1 c2 z0 z1 z2
        gi_wp2
        obtain ⟨W, hW, r1, r2, rs, ro, rb⟩ := store2 Z1.out Z2.out (by omega) (.slice A8 x.length c8) (.bool true)
        rw [← hW]
        refine ⟨⟨by omega, fun b e1 e2 e3 => (ro b (by omega) (by omega)).trans (hbZ.block b e3)⟩, (ro _ (by omega) (by omega)).trans Z0.out, by rw [r2]; simp, ⟨_, r1, ?_⟩, hbY.trans ((hbZ.mono (by omega)).trans (rb _ (by omega) (by omega)))⟩
        rw [HB.out]
        exact own_keepD (lo := w.heap.size) (own_base OWN.out hsY) ⟨rb _ (by omega) (by omega), fun b e1 e2 => ro b (by omega) (by omega)⟩
      · have HB : Hid (bestL usedL xs (k + 1) = b) := Lib.hid (by rw [hsucc, if_neg hlt])
        have g1 : decide ((usedL x : Int) < (usedL b : Int)) = false := by simpa using hlt
        have g2 : decide (usedL x < usedL b) = false := by simpa using hlt
        clear hsucc
        gi_upto_region 3 with fail
        refine wpInR_region_quiet (by kernel_rfl) (by kernel_rfl) (by intro o ho c; simp only [List.mem_cons, List.not_mem_nil, or_false] at ho; rcases ho with rfl | rfl | rfl | rfl | rfl | rfl | rfl | rfl | rfl | rfl | rfl <;> simp) (by rintro ⟨_, _, h⟩; exact h) ?_
        repeat (go_big_quiet_step ((first
          | (go_at_call 90; with_reducible exact Calls.quiet_of_same (used_n (some ⟨w.heap.size + 3 + 2 + off, 0, none⟩) n n x HXL.out hn Y hix _))
          | (go_at_call 90; with_reducible exact Calls.quiet_of_same (used_n A9 c9 _ b rfl hbn Y hib _)))))
        refine wpQuiet_nil ?_
        intro _ hw'
        obtain ⟨nq, hw''⟩ := hw'
        subst hw''
        gi_wp2
        refine ⟨⟨Nat.le_refl _, fun b e1 e2 e3 => rfl⟩, z0, by rw [show decide (0 < k + 1) = decide (0 < k) by simp [hk1]]; exact z2, ⟨_, z1, ?_⟩, ⟨hbY.os, hbY.tape, hbY.output, hbY.size, hbY.block⟩⟩
        rw [HB.out]
        exact HO.out
  case done =>
    rintro X ⟨h1, h2, ⟨vb, h3, h4⟩, h5⟩ hK
    rw [bestL_all] at h4
    obtain ⟨A9, c9, rfl, hib, hml⟩ := own_ints h4
    obtain ⟨b, hb⟩ : ∃ b, b = cheap usedL xs := ⟨_, rfl⟩
    rw [← hb] at h3 h4 hib hml
    have hdk : ∃ q, q = decide (0 < xs.length) := ⟨_, rfl⟩
    obtain ⟨q, hq⟩ := hdk
    rw [← hq] at h2
    have c1 : X.cell? ⟨w.heap.size + 1, 0, none⟩ = some (.slice A9 b.length c9) := cell_of_row X _ 0 _ _ _ h3
    have c2 : X.cell? ⟨w.heap.size + 1 + 1, 0, none⟩ = some (.bool q) := cell_of_row X _ 0 _ _ _ h2
    have f1 := frozen_of_row h3 0
    have f2 := frozen_of_row h2 0
    have H2 := Lib.hid h2
    have H3 := Lib.hid h3
    have H4 := Lib.hid h4
    have HQ := Lib.hid hq
    have HBB := Lib.hid hb
    have HKK := Lib.hid hK
    clear h1 h2 h3 h4 hq hb hK y0 y1 y2 hxs hseq hG
    go_wp2_with fail
    go_region
    obtain ⟨W, hW, r1, r2, rs, ro, rb⟩ := store2 H3.out H2.out (by omega) (.slice A9 b.length c9) (.bool q)
    rw [← hW]
    obtain ⟨V, hV⟩ : ∃ V, V = W.drew := ⟨_, rfl⟩
    rw [← hV]
    have v1 : V.heap[w.heap.size + 1]? = some (.cells #[.slice A9 b.length c9] 29 (0, 0)) := by rw [hV]; exact r1
    have v2 : V.heap[w.heap.size + 1 + 1]? = some (.cells #[.bool q] 4 (0, 0)) := by rw [hV]; exact r2
    have vK : V.heap[w2.heap.size]? = some (.deferred (some [])) := by rw [hV]; exact (ro _ (by omega) (by omega)).trans HKK.out
    have hVB : Below w.heap.size X V := by rw [hV]; exact (rb _ (by omega) (by omega)).drew
    have hVD : BelowD w.heap.size (w2.heap.size + 2 + d) X V := ⟨hVB, fun b e1 e2 => by rw [hV]; exact ro b (by omega) (by omega)⟩
    have d1 : ∀ o, (V.putObj w2.heap.size o).cell? ⟨w.heap.size + 1, 0, none⟩ = some (.slice A9 b.length c9) := fun o => (World.cell?_of_block (w := V) (World.putObj_heap_other (by show w.heap.size + 1 ≠ w2.heap.size; omega))).trans (cell_of_row V _ 0 _ _ _ v1)
    have d2 : ∀ o, (V.putObj w2.heap.size o).cell? ⟨w.heap.size + 1 + 1, 0, none⟩ = some (.bool q) := fun o => (World.cell?_of_block (w := V) (World.putObj_heap_other (by show w.heap.size + 1 + 1 ≠ w2.heap.size; omega))).trans (cell_of_row V _ 0 _ _ _ v2)
    have HVK := Lib.hid vK
    clear c1 c2 f1 f2 hW hV r1 r2 rs ro rb v1 v2 vK
    go_wp2
    refine ⟨by simp, .inl ⟨_, _, rfl, run_takeDeferred HVK.out, ?_⟩⟩
    refine ⟨.tuple #[.slice A9 b.length c9, .bool q], ?_, A9, c9, by rw [HQ.out, HBB.out], ?_, by rw [← HBB.out]; exact hml, h5.trans (hVB.trans (below_putObj _ _ (by omega)))⟩
    · simp [results, Try.results88, go_sem, d1, d2]
    · rw [← HBB.out]
      obtain ⟨A3, c3, e3, h3, -⟩ := own_ints (own_keepD (own_keepD H4.out hVD) (BelowD.putObj (lo := w2.heap.size) V _ (Nat.le_refl _) (by omega)))
      injection e3 with e3 _ _
      rw [e3]
      exact h3
end Go.Proofs.Ytfjincdlenneaaa
