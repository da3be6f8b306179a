/-
  THE ITERATOR 'weighings': the sides with which neither side is heavier, in order.
  CONTRACT: count, over any iterator.
  A REGION THAT DRAWS ITS ORDER AND ONLY READS, INSIDE A ROUND: by the plain theorem on quiet regions.
  A REGION THAT DRAWS ITS ORDER: what only reads, by the cheap step, ahead of a tail in one forced order.
-/
import Derived.Test.YtfjincdlenneaaaPzIter
import Derived.Deep.CutRange
import Derived.StillTailTactics
/-
  THE ITERATOR 'weighings': the sides with which neither side is heavier, in order.
-/
namespace Go.Proofs.Ytfjincdlenneaaa
open Go.RowKit Go.Shelf
attribute [local go_sem] Oper.semAt_some
/-- of the first k, how many are taken -/
def rkF (p : List Int → Bool) (xs : List (List Int)) (k : Nat) : Nat := ((xs.take k).filter p).length
theorem rkF_zero (p xs) : rkF p xs 0 = 0 := rfl
theorem rkF_all (p xs) : rkF p xs xs.length = (xs.filter p).length := by simp [rkF]
theorem rkF_yes {p : List Int → Bool} {xs : List (List Int)} {k : Nat} (hk : k < xs.length) (h : p xs[k] = true) :
    rkF p xs (k + 1) = rkF p xs k + 1 ∧ rkF p xs k < (xs.filter p).length ∧ (xs.filter p).getD (rkF p xs k) [] = xs[k] := by
  have e : xs = xs.take k ++ xs[k] :: xs.drop (k + 1) := by rw [← List.drop_eq_getElem_cons hk, List.take_append_drop]
  have e2 : xs.filter p = (xs.take k).filter p ++ xs[k] :: (xs.drop (k + 1)).filter p := by
    conv => lhs; rw [e, List.filter_append, List.filter_cons_of_pos h]
  refine ⟨?_, ?_, ?_⟩
  · rw [rkF, List.take_add_one, List.getElem?_eq_getElem hk, List.filter_append]; simp [rkF, h]
  · rw [e2]; simp [rkF]
  · rw [List.getD_eq_getElem?_getD, e2, List.getElem?_append_right (by simp [rkF])]
    simp [rkF]
theorem rkF_no {p : List Int → Bool} {xs : List (List Int)} {k : Nat} (hk : k < xs.length) (h : p xs[k] = false) : rkF p xs (k + 1) = rkF p xs k := by
  rw [rkF, List.take_add_one, List.getElem?_eq_getElem hk, List.filter_append]; simp [rkF, h]
/-- the list with number k lies in block g -/
def lstE (g n : Nat) (xs : List (List Int)) (k : Nat) (W : World) (v : Value) : Prop := v = .slice (some ⟨g, 0, none⟩) n n ∧ W.heap[g]? = some (.cells ((xs.getD k []).map I).toArray 3 (0, 0))
/-- all sides -/
def allS (n : Nat) : List (List Int) := (List.range (3 ^ n)).map (sidesOf n)
theorem allS_length (n : Nat) : (allS n).length = 3 ^ n := by simp [allS]
theorem allS_at (n k : Nat) (hk : k < (allS n).length) : (allS n)[k] = sidesOf n k := by simp [allS]
theorem sides_row (n k : Nat) : rowG (-1) (nth (dig 3 n k)) n = (sidesOf n k).map I := by
  refine List.ext_getElem (by simp [rowG, sidesOf_length]) fun i h1 h2 => ?_
  have hi : i < n := by simpa [rowG] using h1
  simp only [rowG, List.getElem_map, List.getElem_range]
  rw [← nth_lt (by rw [sidesOf_length]; exact hi), sidesOf_at hi]
  rfl
theorem ints_row {w : World} {g B : Nat} {x : List Int} (h : w.heap[g]? = some (.cells (x.map I).toArray 3 (0, 0))) (hB : g < B) : IntsR w B (some ⟨g, 0, none⟩) x := by
  intro _
  refine ⟨_, rfl, hB, fun j hj => ?_⟩
  rw [show (⟨g, 0, none⟩ : Addr).add j = ⟨g, j, none⟩ by unfold Addr.add; split <;> simp_all]
  refine (cell_of_row w g j _ _ _ h).trans ?_
  simp [nth, hj]
def tip0 (ws : List Int) (load : Int) (s : List Int) : Bool := tipL ws s load == 0
theorem wgs_eq (ws : List Int) (load : Int) : wgs ws load = (allS ws.length).filter (tip0 ws load) := rfl

theorem five_boxes (w : World) (o0 o1 o2 o3 o4 : Obj) : ∃ w1, w1 = ((((w.alloc o0).alloc o1).alloc o2).alloc o3).alloc o4 ∧ w1.heap.size = w.heap.size + 5 ∧ w1.heap[w.heap.size]? = some o0 ∧ w1.heap[w.heap.size + 1]? = some o1 ∧ w1.heap[w.heap.size + 1 + 1]? = some o2 ∧ w1.heap[w.heap.size + 1 + 1 + 1]? = some o3 ∧ w1.heap[w.heap.size + 1 + 1 + 1 + 1]? = some o4 ∧ Below w.heap.size w w1 := by
  refine ⟨_, rfl, by simp, ?_, ?_, ?_, ?_, alloc_obj _ _ _ (by simp), ?_⟩
  · exact (Below.heap_alloc _ _ _ (by simp <;> omega)).trans ((Below.heap_alloc _ _ _ (by simp <;> omega)).trans ((Below.heap_alloc _ _ _ (by simp <;> omega)).trans ((Below.heap_alloc _ _ _ (by simp <;> omega)).trans (alloc_obj _ _ _ rfl))))
  · exact (Below.heap_alloc _ _ _ (by simp <;> omega)).trans ((Below.heap_alloc _ _ _ (by simp <;> omega)).trans ((Below.heap_alloc _ _ _ (by simp <;> omega)).trans (alloc_obj _ _ _ (by simp <;> omega))))
  · exact (Below.heap_alloc _ _ _ (by simp <;> omega)).trans ((Below.heap_alloc _ _ _ (by simp <;> omega)).trans (alloc_obj _ _ _ (by simp <;> omega)))
  · exact (Below.heap_alloc _ _ _ (by simp <;> omega)).trans (alloc_obj _ _ _ (by simp <;> omega))
  · exact ((((Below.refl _ _).alloc (Nat.le_refl _) _).alloc (by simp <;> omega) _).alloc (by simp <;> omega) _).alloc (by simp <;> omega) _ |>.alloc (by simp <;> omega) _
theorem tips_side (A1 A2 : Option Addr) (c1 c2 : Nat) (ws : List Int) (load : Int) (k : Nat) (w : World) (hx : IntsR w w.heap.size A1 ws) (hy : IntsR w w.heap.size A2 (sidesOf ws.length k)) (hl : ws.length ≤ 10)
    (hw : ∀ i, i < ws.length → 1 ≤ nth ws i ∧ nth ws i ≤ 10000) (h0 : 0 ≤ load) (h1 : load ≤ 10000) :
    Calls Try.prog 85 #[balV A1 c1 ws load, .slice A2 ws.length c2] w fun e w' => e = .returned (I (tipL ws (sidesOf ws.length k) load)) ∧ Below w.heap.size w w' := by
  have h := tips_any A1 A2 c1 c2 ws (sidesOf ws.length k) load w hx hy hl (sidesOf_length _ _) hw (fun i hi => sidesOf_bounds hi) h0 h1
  rw [sidesOf_length] at h
  exact h

set_option maxRecDepth 100000 in
set_option maxHeartbeats 2000000 in
theorem weighings_iter (A1 : Option Addr) (c1 : Nat) (ws : List Int) (load : Int) (hl : ws.length ≤ 10) (hw : ∀ i, i < ws.length → 1 ≤ nth ws i ∧ nth ws i ≤ 10000) (hl0 : 0 ≤ load) (hl1 : load ≤ 10000) (m B : Nat) (hm : 8 ≤ m) (W0 : World) (hB : B ≤ W0.heap.size) :
    IterR Fence.wide m Try.prog 89 #[balV A1 c1 ws load] #[] (wgs ws load).length (lstE (W0.heap.size + 8) ws.length (wgs ws load)) (fun w => IntsR w B A1 ws) 9 W0 := by
  intro l J Jx hJ hJx hG hY h0
  have hm1 : 1 ≤ m := by omega
  show CallsIn Fence.wide m Try.prog 89 #[balV A1 c1 ws load, .func (.yield l) #[] #[]] W0 _
  refine callsIn_of_wp_marks Try.func89 rfl trivial ?_ rfl
  simp only [Try.ntmps89, List.size_toArray, List.length_cons, List.length_nil, Nat.reduceAdd, Nat.reduceSub, Array.replicate_succ, Array.replicate_zero, List.push_toArray, List.append_toArray, List.nil_append, List.cons_append]
  gi_wp2_with fail
  refine ⟨trivial, ?_⟩
  refine (callsIn_wide.2 (lists_any _ _ _ _)).mono ?_
  rintro e w' ⟨rfl, rfl⟩
  gi_wp2_with fail
  obtain ⟨w, hw1, hsw, y0, y1, y2, y3, y4, hbw⟩ := five_boxes W0 (.cells #[.slice A1 ws.length c1, I load] 93) (.cells #[.func (.yield l) #[] #[]] 36) (.cells #[I ws.length] 3) (.cells #[I (-1)] 3) (.cells #[I 1] 3)
  rw [← hw1]
  clear hw1
  refine wpIn_loopR rfl hm1 (gf := 153) (fa := #[]) (lb := #[.pointer (some ⟨W0.heap.size + 1 + 1 + 1, 0, none⟩), .pointer (some ⟨W0.heap.size + 1 + 1, 0, none⟩), .pointer (some ⟨W0.heap.size + 1 + 1 + 1 + 1, 0, none⟩)]) rfl trivial (enters_of Try.func153 (by kernel_rfl) rfl)
    (m := 3 ^ ws.length) (E := fun s => rowE (-1) 3 ws.length (s + 1)) (G := fun V => V.cell? ⟨W0.heap.size + 1 + 1, 0, none⟩ = some (I ws.length) ∧ V.cell? ⟨W0.heap.size + 1 + 1 + 1, 0, none⟩ = some (I (-1)) ∧ V.cell? ⟨W0.heap.size + 1 + 1 + 1 + 1, 0, none⟩ = some (I (-1 + (3 : Nat) - 1))) 2
    (fun V hV _ hs => lists_iter ws.length 3 (-1) (by omega) (by omega) (by omega) (by omega) (by omega) (W0.heap.size + 1 + 1) (W0.heap.size + 1 + 1 + 1) (W0.heap.size + 1 + 1 + 1 + 1) (m - 1) w.heap.size (by omega) V hV.size (by omega) (by omega) (by omega)) rfl
    (fun k V => J (rkF (tip0 ws load) (allS ws.length) k) V ∧ ∀ b, W0.heap.size ≤ b → b < W0.heap.size + 5 → V.heap[b]? = w.heap[b]?)
    (fun c _ V => c = .ret ∧ ∃ j, 0 < j ∧ j ≤ (wgs ws load).length ∧ Jx j V)
    (fun k X Y h hb => ⟨hJ _ _ _ h.1 (hb.mono (by omega) (by omega)), fun b b1 b2 => (hb.low.block _ (by omega)).trans (h.2 b b1 b2)⟩)
    (fun c k X Y h hb => ⟨h.1, by obtain ⟨_, j, j1, j2, j3⟩ := h; exact ⟨j, j1, j2, hJx _ _ _ j3 (hb.mono (by omega) (by omega))⟩⟩)
    ?toG ⟨hJ _ _ _ h0 (.of_below hbw (Nat.le_refl _) (Nat.le_refl _)), fun _ _ _ => rfl⟩ ?round ?done ?stop
  case toG =>
    rintro k X ⟨_, hb⟩
    exact ⟨cell_of_row X _ 0 _ _ _ ((hb _ (by omega) (by omega)).trans y2), cell_of_row X _ 0 _ _ _ ((hb _ (by omega) (by omega)).trans y3), cell_of_row X _ 0 _ _ _ ((hb _ (by omega) (by omega)).trans y4)⟩
  case round =>
    rintro l' k hk X v hl1 hl2 hl3 ⟨hJX, hX5⟩ ⟨rfl, hrX⟩
    gi_wp2
    refine ⟨Below.refl _ _, fun o => ?_⟩
    obtain ⟨Y, hYd⟩ : ∃ Y, Y = X.putObj l' o := ⟨_, rfl⟩
    rw [← hYd]
    have hXYD : BelowD W0.heap.size (W0.heap.size + 9) X Y := by
      rw [hYd]; exact .putObj _ _ (by omega) (by omega)
    have hrY : Y.heap[W0.heap.size + 8]? = some (.cells ((sidesOf ws.length k).map I).toArray 3 (0, 0)) := by
      rw [hYd, ← sides_row]; refine (World.putObj_heap_other (by omega)).trans ?_
      rw [hsw] at hrX
      exact hrX
    have hY5 : ∀ b, W0.heap.size ≤ b → b < W0.heap.size + 5 → Y.heap[b]? = w.heap[b]? := fun b h1 h2 => by
      rw [hYd]; exact (World.putObj_heap_other (by omega)).trans (hX5 b h1 h2)
    have hJY : J (rkF (tip0 ws load) (allS ws.length) k) Y := hJ _ _ _ hJX hXYD
    have hszY := row_lt' hrY
    have z0 := (hY5 _ (by omega) (by omega)).trans y0
    have z1 := (hY5 _ (by omega) (by omega)).trans y1
    have hx : IntsR Y Y.heap.size A1 ws := (hG _ _ hJY).more (by omega)
    have hkl : k < (allS ws.length).length := by rw [allS_length]; exact hk
    have b0 : Y.cell? ⟨W0.heap.size, 0, none⟩ = some (.slice A1 ws.length c1) := cell_of_row Y _ 0 _ _ _ z0
    have b1 : Y.cell? ⟨W0.heap.size, 1, none⟩ = some (I load) := cell_of_row Y _ 1 _ _ _ z0
    have hszX : W0.heap.size + 9 ≤ X.heap.size := by omega
    clear hYd z0 y0 y1 y2 y3 y4 hrX hX5 hJX
    rw [show W0.heap.size + 5 + 2 + 1 = W0.heap.size + 8 from rfl]
    gi_wp2_with fail
    refine ⟨trivial, fun _ => by omega, ?_⟩
    refine (CallsIn.inRound l' (callsIn_wide.2 (tips_side A1 (some ⟨W0.heap.size + 8, 0, none⟩) c1 _ ws load k _ hx (ints_row hrY hszY) hl hw hl0 ‹load ≤ 10000›))).mono ?_
    rintro e Z ⟨rfl, hYZ⟩
    have hYZD : BelowD W0.heap.size (W0.heap.size + 9) Y Z := .of_below hYZ (Nat.le_refl _) (by omega)
    have zc : Z.cell? ⟨W0.heap.size + 1, 0, none⟩ = some (.func (.yield l) #[] #[]) := cell_of_row Z _ 0 _ _ _ ((hYZ.block _ (by omega)).trans z1)
    have hrZ := (hYZ.block _ hszY).trans hrY
    have hZ5 : ∀ b, W0.heap.size ≤ b → b < W0.heap.size + 5 → Z.heap[b]? = w.heap[b]? := fun b h1 h2 => (hYZ.block _ (by omega)).trans (hY5 b h1 h2)
    have hJZ : J (rkF (tip0 ws load) (allS ws.length) k) Z := hJ _ _ _ hJY hYZD
    have hsz2 := hYZ.size
    have HZ := Lib.hid hrZ
    clear b0 b1 z1 hrY hY5 hJY hx hrZ
    cases hgd : tip0 ws load (sidesOf ws.length k)
    · have hq : (tipL ws (sidesOf ws.length k) load == 0) = false := hgd
      have HQ := Lib.hid (rkF_no (p := tip0 ws load) hkl (by rw [allS_at]; exact hgd))
      clear hgd hkl
      gi_wp2_with fail
      refine ⟨fun _ h => (by cases h), ?_⟩
      gi_wp2
      refine ⟨.of_call hYZ (Nat.le_refl _), ?_, hZ5⟩
      rw [HQ.out]
      exact hJZ
    · have hq : (tipL ws (sidesOf ws.length k) load == 0) = true := hgd
      obtain ⟨e1, hr, e2⟩ := rkF_yes (p := tip0 ws load) hkl (by rw [allS_at]; exact hgd)
      rw [allS_at] at e2
      obtain ⟨fn, tmps, assign, body, hy, hR⟩ := hY _ hr Z (.slice (some ⟨W0.heap.size + 8, 0, none⟩) ws.length ws.length) (by omega) hJZ ⟨rfl, by rw [wgs_eq, e2]; exact HZ.out⟩
      have hR' : RoundIn (Fence.wide.inRound l') (m - 1 - 1 - 1) Try.prog l fn tmps assign body Z _ := ⟨hR.1, fun c cs _ => hR.2 c cs (room_wide _)⟩
      have E1 := Lib.hid e1
      clear hR hgd e1 e2 hkl
      gi_wp2_with fail
      refine ⟨fun _ => by omega, hR'.mono ?_⟩
      rintro e V (⟨rfl, hJ3, hk3⟩ | ⟨rfl, hJx3, hk3⟩)
      · gi_wp2
        refine ⟨.trans (.of_call hYZ (Nat.le_refl _)) (hk3.mono (by omega) (by omega)), by rw [E1.out]; exact hJ3, fun b h1 h2 => (hk3.same _ h1 (by omega) (by omega)).trans (hZ5 b h1 h2)⟩
      · gi_wp2
        exact ⟨.trans (.of_call hYZ (Nat.le_refl _)) (hk3.mono (by omega) (by omega)), rfl, _, by omega, hr, hJx3⟩
  case done =>
    rintro X ⟨hJX, hX5⟩ hK
    have e := rkF_all (tip0 ws load) (allS ws.length)
    rw [allS_length] at e
    rw [e] at hJX
    clear e y0 y1 y2 y3 y4
    gi_wp2
    refine ⟨by simp, .inl ⟨_, _, rfl, run_takeDeferred hK, ?_⟩⟩
    refine ⟨_, results_none rfl _ _ _, ⟨_, rfl⟩, .inl ?_⟩
    exact hJ _ _ _ hJX (.putObj _ _ (by omega) (by omega))
  case stop =>
    rintro c' k X k0 k1 ⟨rfl, j, j0, j1, hj⟩ hK
    clear y0 y1 y2 y3 y4
    gi_wp2
    refine ⟨by simp, .inl ⟨_, _, rfl, run_takeDeferred hK, ?_⟩⟩
    refine ⟨_, results_none rfl _ _ _, ⟨_, rfl⟩, .inr ⟨j, j0, j1, ?_⟩⟩
    exact hJx _ _ _ hj (.putObj _ _ (by omega) (by omega))
end Go.Proofs.Ytfjincdlenneaaa
/-
  CONTRACT: count, over any iterator.
-/
namespace Go.Proofs.Ytfjincdlenneaaa
open Go.RowKit Go.Shelf
attribute [local go_sem] Oper.semAt_some

set_option maxRecDepth 100000 in
set_option maxHeartbeats 2000000 in
theorem count_any {gf : Nat} {fa lb : Array Value} (eg : Enters Try.prog gf) {m : Nat} {E : Nat → Nat → World → Value → Prop} {G : World → Prop} (d : Nat) (w : World) (hm : m ≤ 1000000)
    (hseq : ∀ W, w.heap.size ≤ W.heap.size → IterR Fence.wide 19 Try.prog gf fa lb m (E W.heap.size) G d W) (hG : ∀ A, Below w.heap.size w A → G A) :
    Calls Try.prog 92 #[.func (.func gf) fa lb] w fun e w' => e = .returned (I (m : Nat)) ∧ Below w.heap.size w w' := by
  refine (callsIn_wide (n := 20)).1 (callsIn_of_wp_marks Try.func92 rfl trivial ?_ rfl)
  rw [wpIn_wide]
  simp only [Try.ntmps92, List.size_toArray, List.length_cons, List.length_nil, Nat.reduceAdd, Nat.reduceSub, Array.replicate_succ, Array.replicate_zero, List.push_toArray, List.append_toArray, List.nil_append, List.cons_append]
  go_wp2_with fail
  obtain ⟨w2, hw2⟩ : ∃ w2, w2 = w.alloc (.cells #[I 0] 3) := ⟨_, rfl⟩
  rw [← hw2]
  have hn2 : w2.heap[w.heap.size]? = some (.cells #[I ((0 : Nat) : Int)] 3 (0, 0)) := by rw [hw2]; exact alloc_obj _ _ _ rfl
  have hb2 : Below w.heap.size w w2 := by rw [hw2]; exact (Below.refl _ _).alloc (Nat.le_refl _) _
  have hs2 : w2.heap.size = w.heap.size + 1 := by rw [hw2]; simp
  clear hw2
  refine wpIn_wide.1 (wpIn_loopR (n := 20) rfl (by omega) (gf := gf) (fa := fa) (lb := lb) rfl trivial eg (m := m) (E := E) (G := G) d
    (fun V hV _ _ => hseq V (by have := hV.size; omega)) rfl
    (fun k V => V.heap[w.heap.size]? = some (.cells #[I (k : Int)] 3 (0, 0)) ∧ Below w.heap.size w V)
    (fun _ _ _ => False)
    ?closed (fun _ _ _ _ h _ => h.elim) (fun k A h => hG A h.2) ⟨hn2, hb2⟩ ?round ?done (fun _ _ _ _ _ h _ => h.elim))
  case closed =>
    rintro k X Y ⟨h1, h2⟩ hb
    exact ⟨(hb.low.block _ (by omega)).trans h1, h2.trans (hb.low.mono (by omega))⟩
  case round =>
    rintro l k hk X v hl1 hl2 hl3 ⟨h1, h2⟩ _
    gi_wp2
    refine ⟨Below.refl _ _, fun o => ?_⟩
    obtain ⟨Y, hYd⟩ : ∃ Y, Y = X.putObj l o := ⟨_, rfl⟩
    rw [← hYd]
    have hXY : Below w2.heap.size X Y := by rw [hYd]; exact below_putObj _ _ hl1
    have y1 := (hXY.block _ (by omega)).trans h1
    have hbY : Below w.heap.size w Y := h2.trans (hXY.mono (by omega))
    have n0 : Y.cell? ⟨w.heap.size, 0, none⟩ = some (I (k : Int)) := cell_of_row Y _ 0 _ _ _ y1
    have nf : Y.frozen? ⟨w.heap.size, 0, none⟩ = false := frozen_of_row y1 0
    have hkw : wrap64 ((k : Int) + 1) = (k : Int) + 1 := IntWalk.wrap64_in _ ⟨by omega, by omega⟩
    have HY := Lib.hid y1
    clear hYd y1 h1 hn2
    gi_wp2
    refine ⟨.setCell _ (.inl (by show w.heap.size < _; omega)) _, row_set HY.out 0 _, hbY.setCell (p := ⟨w.heap.size, 0, none⟩) (Nat.le_refl _) _⟩
  case done =>
    rintro X ⟨h1, h2⟩ hK
    have n0 : X.cell? ⟨w.heap.size, 0, none⟩ = some (I (m : Int)) := cell_of_row X _ 0 _ _ _ h1
    have H1 := Lib.hid h1
    clear h1 hn2
    go_wp2
    refine ⟨by simp, .inl ⟨_, _, rfl, run_takeDeferred hK, ?_⟩⟩
    refine ⟨_, results_tmp rfl _ _ _, rfl, h2.trans (below_putObj _ _ (by omega))⟩
end Go.Proofs.Ytfjincdlenneaaa
/-
  A REGION THAT DRAWS ITS ORDER AND ONLY READS, INSIDE A ROUND: by the plain theorem on quiet regions.
-/
namespace Go
section
variable {P : Program} {ops : Array Oper} {Q : Exit → Act → World → Prop}
theorem wpOpIn_of_wpOp {l n i : Nat} {K K' : Act → World → Prop} {a : Act} {w : World} (hnd : ∀ o ∈ ops, ∀ c, o.op ≠ .defer c) (hQ : ¬ LetsOut Q) (hK : ∀ a w, K a w → K' a w) (h : wpOp P ops Q i K a w) :
    wpOpIn (Fence.wide.inRound l) n P ops Q i K' a w := by
  unfold wpOp at h
  unfold wpOpIn
  cases ho : ops[i]? with
  | none => simp only [ho] at h; exact hK _ _ h
  | some o =>
    simp only [ho] at h
    by_cases hw : Region.wanted o (yielded ops a.tmps) = true
    · simp only [hw, if_true] at h ⊢
      rcases h with h | h
      · exact wpIn_of_wp_op (hnd o (Array.mem_of_getElem? ho)) (Oper.wp_mono hK h)
      · exact absurd h.2 hQ
    · simp only [hw] at h ⊢
      exact ⟨fun _ _ => trivial, hK _ _ h⟩
theorem wpAnyIn_of_wpAny {l n : Nat} (hnd : ∀ o ∈ ops, ∀ c, o.op ≠ .defer c) (hQ : ¬ LetsOut Q) : ∀ (fuel : Nat) (L : Array Bool) (a : Act) (w : World), wpAny P .any ops Q fuel L a w → wpAnyIn (Fence.wide.inRound l) n P .any ops Q fuel L a w := by
  intro fuel
  induction fuel with
  | zero => exact fun L a w h => h
  | succ fuel ih => exact fun L a w h => ⟨h.1, fun i hi => wpOpIn_of_wpOp hnd hQ (fun a w h => ih _ a w h) (h.2 i hi)⟩
/-- the rule -/
theorem wpInR_region_quiet {l n id : Nat} {a : Act} {w : World} {ol : List Oper} (hm : P.follows .mixedOrders = true) (hB : Region.lexB .any ol.toArray = true) (hnd : ∀ o ∈ ol, ∀ c, o.op ≠ .defer c) (hQ : ¬ LetsOut Q)
    (h : wpQuiet P ol.toArray (fun w' => ∃ n, w' = w.drewN n) (fun a' => ∀ w', (∃ n, w' = w.drewN n) → Q .normal a' w') ol a) : (Code.region id ol.toArray true).wpIn (Fence.wide.inRound l) n P Q a w := by
  refine wpIn_region_any hm (wpAnyIn_of_wpAny (by simpa using hnd) hQ _ _ _ _ ?_)
  simp only [Region.lexB, Bool.and_eq_true] at hB
  refine wpAny_of_quiet (C := fun w' => ∃ n, w' = w.drewN n) (Q := fun a' => ∀ w', (∃ n, w' = w.drewN n) → Q .normal a' w') (fun _ w' hw' h => h w' hw') _ _ _ _ ⟨1, rfl⟩ ?_
  have := wpAnyQ_lex (P := P) (C := fun w' => ∃ n, w' = w.drewN n) (md := .any) hB.1 ol.toArray.toList 0 (Array.replicate ol.toArray.size false) a (by simp) (by simpa using hB.2) (by simpa using h)
  simpa using this
end
end Go
/-
  A REGION THAT DRAWS ITS ORDER: what only reads, by the cheap step, ahead of a tail in one forced order.
-/
namespace Go
section
variable {P : Program} {ops : Array Oper} {Q : Act → Prop} {W : World}
theorem still_of_quiet {o : Oper} {a : Act} {K K' : Act → Prop} (hK : ∀ a, K a → K' a) (h : o.quiet P a (fun w' => w' = W) K) : o.still P a W K' := by
  obtain ⟨v, h1, h2⟩ := h
  have h3 := h1 W rfl
  unfold Oper.still Oper.stillUpon
  unfold Oper.quietAt Oper.quietUpon at h3
  revert h3
  cases (execOp a.eval o).run P W with
  | ok x w' =>
    cases x <;> intro h3 <;> first
      | exact (h3 : False).elim
      | (obtain ⟨e1, e2⟩ := h3; subst e2; exact ⟨e1, hK _ h2⟩)
      | (obtain ⟨e1, e2⟩ := h3; subst e1; exact ⟨rfl, _, e2, hK _ h2⟩)
  | halt x w' => intro h3; exact (h3 : False).elim
theorem wpStill_of_wpQuiet : ∀ (l : List Oper) (a : Act), wpQuiet P ops (fun w' => w' = W) Q l a → wpStill P ops W Q l a := by
  intro l
  induction l with
  | nil => exact fun a h => h
  | cons o rest ih =>
    intro a h
    simp only [wpQuiet] at h
    simp only [wpStill]
    by_cases hw : Region.wanted o (yielded ops a.tmps) = true
    · rw [if_pos hw] at h ⊢
      exact still_of_quiet ih h
    · rw [if_neg hw] at h ⊢
      exact ih _ h
theorem wp_region_qtail {id : Nat} {Q : Exit → Act → World → Prop} {a : Act} {w : World} {l : List Oper} (n : Nat) (hm : P.follows .mixedOrders = true) (hB : Region.lexTailB .any l.toArray n = true)
    (h : wpQuiet P l.toArray (fun w' => w' = w.drew) (fun a' => wpList P l.toArray Q (l.drop n) a' w.drew) (l.take n) a) : (Code.region id l.toArray true).wp P Q a w :=
  wp_region_still_tail n hm hB (wpStill_of_wpQuiet _ _ h)
end
end Go
