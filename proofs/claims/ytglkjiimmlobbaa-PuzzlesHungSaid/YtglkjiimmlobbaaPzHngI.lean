/-
  THE ITERATOR 'hangings', as a loop takes it; Hangings.
-/
import Derived.Test.YtglkjiimmlobbaaPzHng
import Derived.Laws.EntriesVeiled
namespace Go.Proofs.Ytglkjiimmlobbaa
open Go.RowKit Go.Shelf
attribute [local go_sem] Oper.semAt_some

set_option maxRecDepth 100000 in
set_option maxHeartbeats 4000000 in
theorem hangings_iter (n : Nat) (A : Option Addr) (c : Nat) (ps : List Por) (hn : n ≤ 6) (hpl : ps.length ≤ maxLen) (m B : Nat) (W0 : World) (hB : B ≤ W0.heap.size) :
    IterR Fence.wide m Try.prog 114 #[galV n A ps.length c] #[] (hngL n ps).length (lstE (W0.heap.size + 2) n (hngL n ps)) (fun w => PorR w B A ps) 5 W0 := by
  intro l J Jx hJ hJx hG hY h0
  show CallsIn Fence.wide m Try.prog 114 #[galV n A ps.length c, .func (.yield l) #[] #[]] W0 _
  refine (callsIn_wide (n := m)).2 ((callsIn_wide (n := 20)).1 (callsIn_of_wp Try.func114 rfl trivial ?_ rfl))
  simp only [Try.ntmps114, List.size_toArray, List.length_cons, List.length_nil, Nat.reduceAdd, Nat.reduceSub, Array.replicate_succ, Array.replicate_zero, List.push_toArray, List.append_toArray, List.nil_append, List.cons_append]
  have hmk := run_make_cap (P := Try.prog) 29 3 (.int .i64 0) 8 Try.underlying29 info_int rfl .i64 .i64 n (by omega) (by omega)
  simp only [madeF] at hmk
  have hrec := try_rec W0.heap.size n A c l ps (hngL n ps) m B J Jx hn hpl hB hJ hG hY n [] 0
  have H0 := Lib.hid h0
  have HJ := Lib.hid hJ
  clear h0 hJ hG hY
  gi_upto_region 4 with fail
  obtain ⟨w, hw1, hsw, y0, y1, y2, y3, y4, hbw⟩ := five_boxes W0 (.cells #[I n, .slice A ps.length c] 127) (.cells #[.func (.yield l) #[] #[]] 36) (.cells (rowF (fun _ => I 0) n) 3) (.cells #[.slice (some ⟨W0.heap.size + 1 + 1, 0, none⟩) 0 n] 29)
    (.cells #[.func (.func 145) #[] #[.pointer (some ⟨W0.heap.size + 1 + 1 + 1, 0, none⟩), .pointer (some ⟨W0.heap.size, 0, none⟩), .pointer (some ⟨W0.heap.size + 1, 0, none⟩), .pointer (some ⟨W0.heap.size + 1 + 1 + 1 + 1, 0, none⟩)]] 24)
  rw [← hw1]
  clear hw1 hmk
  have hS : HSt W0.heap.size n A ps.length c l w [] := {
    g := y0
    y := y1
    own := ⟨rfl, .inr ⟨W0.heap.size + 2, n, _, rfl, Nat.le_refl _, y2, Nat.zero_le _, by unfold maxLen; omega, by rw [rowF_size, Nat.mul_one], by simp⟩⟩
    s := y3
    t := y4 }
  have hJw : J 0 w := HJ.out 0 _ _ H0.out (.of_below hbw (Nat.le_refl _) (Nat.le_refl _))
  have hcall := hrec w (by simp) (Seg.all _) hS hJw
  have t5 : w.cell? ⟨W0.heap.size + 1 + 1 + 1 + 1, 0, none⟩ = some (.func (.func 145) #[] #[.pointer (some ⟨W0.heap.size + 1 + 1 + 1, 0, none⟩), .pointer (some ⟨W0.heap.size, 0, none⟩), .pointer (some ⟨W0.heap.size + 1, 0, none⟩), .pointer (some ⟨W0.heap.size + 1 + 1 + 1 + 1, 0, none⟩)]) := cell_of_row w _ 0 _ _ _ y4
  clear hrec y0 y1 y2 y3 y4 hS hJw
  gi_wp2_with fail
  refine ⟨trivial, ?_⟩
  refine (callsIn_wide.2 hcall).mono ?_
  rintro e V (⟨rfl, hJV, hSV, hsV⟩ | ⟨rfl, j, j0, j1, hjx⟩)
  · rw [Nat.zero_add] at hJV
    clear hcall t5
    gi_wp2
    go_end0
    exact ⟨⟨_, rfl⟩, .inl hJV⟩
  · clear hcall t5
    gi_wp2
    go_end0
    exact ⟨⟨_, rfl⟩, .inr ⟨j, j0, j1, hjx⟩⟩

/-- the number of hangings, as both answer -/
def hngN (n : Int) (ps : List Por) : Nat := if porE n ps = 0 then (hngL n.toNat ps).length else 0

set_option maxRecDepth 100000 in
set_option maxHeartbeats 2000000 in
theorem Hangings_any (n : Int) (A : Option Addr) (c : Nat) (ps : List Por) (w : World) (hp : PorR w w.heap.size A ps) (hpl : ps.length ≤ maxLen) :
    Calls Try.prog 48 #[I n, .slice A ps.length c] w fun e w' => e = .returned (.tuple #[I (hngN n ps : Nat), I (porE n ps)]) ∧ Below w.heap.size w w' := by
  have HNN := Lib.hid (show hngN n ps = if porE n ps = 0 then (hngL n.toNat ps).length else 0 from rfl)
  have HOK := Lib.hid (fun h => porE_ok (n := n) (ps := ps) h)
  go_enter Try.func48, Try.ntmps48
  go_upto_region 2 with fail
  obtain ⟨w1, hw1, s1, y1, hb1⟩ := one_box w (.cells #[I n, .slice A ps.length c] 127)
  rw [← hw1]
  have g0 : w1.cell? ⟨w.heap.size, 0, none⟩ = some (I n) := cell_of_row w1 _ 0 _ _ _ y1
  have g1 : w1.cell? ⟨w.heap.size, 1, none⟩ = some (.slice A ps.length c) := cell_of_row w1 _ 1 _ _ _ y1
  have hp1 := por_call hb1 hp
  have HY := Lib.hid y1
  have hsw : w.heap.size < w1.heap.size := by omega
  clear hw1 y1 s1 hp
  go_wp2_with fail
  refine (gcheck_any n A c ps w1 hp1 hpl).mono ?_
  rintro e w2 ⟨rfl, hb2⟩
  have y2 := (hb2.block _ hsw).trans HY.out
  have g0 : w2.cell? ⟨w.heap.size, 0, none⟩ = some (I n) := cell_of_row w2 _ 0 _ _ _ y2
  have g1 : w2.cell? ⟨w.heap.size, 1, none⟩ = some (.slice A ps.length c) := cell_of_row w2 _ 1 _ _ _ y2
  have hp2 := por_call hb2 hp1
  have hB2 := hb1.trans (hb2.mono hb1.size)
  obtain ⟨E, hE⟩ : ∃ E, E = porE n ps := ⟨_, rfl⟩
  rw [← hE]
  have HE := Lib.hid hE
  clear y2 hb1 hb2 hp1 HY hE
  by_cases h0 : E = 0
  · obtain ⟨⟨h1, h2⟩, h3, h4⟩ := HOK.out (by rw [← HE.out]; exact h0)
    have HN := Lib.hid (HNN.out.trans (if_pos (by rw [← HE.out]; exact h0)))
    have hcall : Calls Try.prog 92 #[.func (.func 114) #[galV n A ps.length c] #[]] w2 fun e w' => e = .returned (I ((hngL n.toNat ps).length : Nat)) ∧ Below w2.heap.size w2 w' := by
      obtain ⟨k, rfl⟩ := Int.eq_ofNat_of_zero_le (show 0 ≤ n by omega)
      exact count_any (gf := 114) (fa := #[galV k A ps.length c]) (lb := #[]) (enters_of Try.func114 (by kernel_rfl) rfl) (m := (hngL k ps).length) (E := fun s => lstE (s + 2) k (hngL k ps)) (G := fun V => PorR V w2.heap.size A ps) 5 w2 (Nat.le_trans (hng_most (by omega)) (by decide))
        (fun W hW => hangings_iter k A c ps (by omega) hpl 19 w2.heap.size W hW) (fun V hV => hp2.below hV (Nat.le_refl _))
    obtain ⟨L, hL⟩ : ∃ L, L = (hngL n.toNat ps).length := ⟨_, rfl⟩
    rw [← hL] at hcall
    have HL := Lib.hid hL
    subst h0
    clear h4 hL
    go_wp2_with fail
    refine hcall.mono ?_
    rintro e w3 ⟨rfl, hb3⟩
    clear hcall g0 g1 hp2
    go_wp2
    go_ret2
    exact ⟨by rw [HN.out, ← HL.out, ← HE.out]; rfl, hB2.trans (hb3.mono hB2.size)⟩
  · have HN := Lib.hid (HNN.out.trans (if_neg (by rw [← HE.out]; exact h0)))
    have g2 : (E != 0) = true := by simpa using h0
    clear h0
    go_wp2
    go_ret2
    exact ⟨by rw [HN.out, ← HE.out]; rfl, hB2⟩
end Go.Proofs.Ytglkjiimmlobbaa
