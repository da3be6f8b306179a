/-
  CONTRACT: count, over any iterator.
-/
import Derived.Test.YtglkjiimmlobbaaPzWgs
namespace Go.Proofs.Ytglkjiimmlobbaa
open Go.RowKit Go.Shelf
attribute [local go_sem] Oper.semAt_some

set_option maxRecDepth 100000 in
set_option maxHeartbeats 2000000 in
theorem count_any {gf : Nat} {fa lb : Array Value} (eg : Enters Try.prog gf) {m : Nat} {E : Nat → Nat → World → Value → Prop} {G : World → Prop} (d : Nat) (w : World) (hm : m ≤ 1000000)
    (hseq : ∀ W, w.heap.size ≤ W.heap.size → IterR Fence.wide 19 Try.prog gf fa lb m (E W.heap.size) G d W) (hG : ∀ A, Below w.heap.size w A → G A) :
    Calls Try.prog 92 #[.func (.func gf) fa lb] w fun e w' => e = .returned (I (m : Nat)) ∧ Below w.heap.size w w' := by
  refine (callsIn_wide (n := 20)).1 (callsIn_of_wp_marks Try.func92 rfl trivial ?_ rfl)
  rw [wpIn_wide]
  simp only [Try.ntmps92, List.size_toArray, List.length_cons, List.length_nil, Nat.reduceAdd, Nat.reduceSub, Array.replicate_succ, Array.replicate_zero, List.push_toArray, List.append_toArray, List.nil_append, List.cons_append]
  go_wp2_with fail
  obtain ⟨w2, hw2⟩ : ∃ w2, w2 = w.alloc (.cells #[I 0] 3) := ⟨_, rfl⟩
  rw [← hw2]
  have hn2 : w2.heap[w.heap.size]? = some (.cells #[I ((0 : Nat) : Int)] 3 (0, 0)) := by rw [hw2]; exact alloc_obj _ _ _ rfl
  have hb2 : Below w.heap.size w w2 := by rw [hw2]; exact (Below.refl _ _).alloc (Nat.le_refl _) _
  have hs2 : w2.heap.size = w.heap.size + 1 := by rw [hw2]; simp
  clear hw2
  refine wpIn_wide.1 (wpIn_loopR (n := 20) rfl (by omega) (gf := gf) (fa := fa) (lb := lb) rfl trivial eg (m := m) (E := E) (G := G) d
    (fun V hV _ _ => hseq V (by have := hV.size; omega)) rfl
    (fun k V => V.heap[w.heap.size]? = some (.cells #[I (k : Int)] 3 (0, 0)) ∧ Below w.heap.size w V)
    (fun _ _ _ => False)
    ?closed (fun _ _ _ _ h _ => h.elim) (fun k A h => hG A h.2) ⟨hn2, hb2⟩ ?round ?done (fun _ _ _ _ _ h _ => h.elim))
  case closed =>
    rintro k X Y ⟨h1, h2⟩ hb
    exact ⟨(hb.low.block _ (by omega)).trans h1, h2.trans (hb.low.mono (by omega))⟩
  case round =>
    rintro l k hk X v hl1 hl2 hl3 ⟨h1, h2⟩ _
    gi_wp2
    refine ⟨Below.refl _ _, fun o => ?_⟩
    obtain ⟨Y, hYd⟩ : ∃ Y, Y = X.putObj l o := ⟨_, rfl⟩
    rw [← hYd]
    have hXY : Below w2.heap.size X Y := by rw [hYd]; exact below_putObj _ _ hl1
    have y1 := (hXY.block _ (by omega)).trans h1
    have hbY : Below w.heap.size w Y := h2.trans (hXY.mono (by omega))
    have n0 : Y.cell? ⟨w.heap.size, 0, none⟩ = some (I (k : Int)) := cell_of_row Y _ 0 _ _ _ y1
    have nf : Y.frozen? ⟨w.heap.size, 0, none⟩ = false := frozen_of_row y1 0
    have hkw : wrap64 ((k : Int) + 1) = (k : Int) + 1 := IntWalk.wrap64_in _ ⟨by omega, by omega⟩
    have HY := Lib.hid y1
    clear hYd y1 h1 hn2
    gi_wp2
    refine ⟨.setCell _ (.inl (by show w.heap.size < _; omega)) _, row_set HY.out 0 _, hbY.setCell (p := ⟨w.heap.size, 0, none⟩) (Nat.le_refl _) _⟩
  case done =>
    rintro X ⟨h1, h2⟩ hK
    have n0 : X.cell? ⟨w.heap.size, 0, none⟩ = some (I (m : Int)) := cell_of_row X _ 0 _ _ _ h1
    have H1 := Lib.hid h1
    clear h1 hn2
    go_wp2
    refine ⟨by simp, .inl ⟨_, _, rfl, run_takeDeferred hK, ?_⟩⟩
    refine ⟨_, results_tmp rfl _ _ _, rfl, h2.trans (below_putObj _ _ (by omega))⟩
end Go.Proofs.Ytglkjiimmlobbaa
