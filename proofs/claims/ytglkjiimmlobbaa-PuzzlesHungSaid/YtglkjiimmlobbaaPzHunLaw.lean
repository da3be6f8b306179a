/-
  CONTRACT: the law PuzzlesHung.
-/
import Derived.Test.YtglkjiimmlobbaaPzHunT
namespace Go.Proofs.Ytglkjiimmlobbaa
open Go.RowKit Go.Shelf
set_option maxRecDepth 100000 in
set_option maxHeartbeats 8000000 in
theorem hung_any (n : Int) (A : Option Addr) (c : Nat) (ps : List Por) (x : Por) (w : World) (hp : PorR w w.heap.size A ps) (hpl : ps.length ≤ maxLen) :
    Calls Try.prog 15 #[I n, .slice A ps.length c, porV x] w fun e w' => e = .returned (.bool true) ∧ Below w.heap.size w w' := by
  have hpl' := hpl
  unfold maxLen at hpl'
  obtain ⟨wa, ha, sa, ya, ba⟩ := one_box w (.cells #[I x.kind, I x.a, I x.b, I x.n, .bool x.neg] 71)
  have f0 : wa.cell? ⟨w.heap.size, 0, none⟩ = some (I x.kind) := cell_of_row wa _ 0 _ _ _ ya
  have f1 : wa.cell? ⟨w.heap.size, 1, none⟩ = some (I x.a) := cell_of_row wa _ 1 _ _ _ ya
  have f2 : wa.cell? ⟨w.heap.size, 2, none⟩ = some (I x.b) := cell_of_row wa _ 2 _ _ _ ya
  have f3 : wa.cell? ⟨w.heap.size, 3, none⟩ = some (I x.n) := cell_of_row wa _ 3 _ _ _ ya
  have f4 : wa.cell? ⟨w.heap.size, 4, none⟩ = some (.bool x.neg) := cell_of_row wa _ 4 _ _ _ ya
  have hp1 := por_call ba hp
  have YA := Lib.hid ya
  have hsw : w.heap.size < wa.heap.size := by omega
  have HOK := Lib.hid (fun h => porE_ok (n := n) (ps := ps) h)
  clear ya hp sa
  go_enter Try.func15, Try.ntmps15
  go_upto_region 1 with fail
  rw [← ha]
  clear ha
  go_wp2_with fail
  refine (checkPor_any n A c ps wa hp1 hpl).mono ?_
  rintro e w1 ⟨rfl, hb1⟩
  have hp2 := por_call hb1 hp1
  have hB1 := ba.trans (hb1.mono ba.size)
  have y1 := Lib.hid ((hb1.block _ hsw).trans YA.out)
  have f0 : w1.cell? ⟨w.heap.size, 0, none⟩ = some (I x.kind) := cell_of_row w1 _ 0 _ _ _ y1.out
  have f1 : w1.cell? ⟨w.heap.size, 1, none⟩ = some (I x.a) := cell_of_row w1 _ 1 _ _ _ y1.out
  have f2 : w1.cell? ⟨w.heap.size, 2, none⟩ = some (I x.b) := cell_of_row w1 _ 2 _ _ _ y1.out
  have f3 : w1.cell? ⟨w.heap.size, 3, none⟩ = some (I x.n) := cell_of_row w1 _ 3 _ _ _ y1.out
  have f4 : w1.cell? ⟨w.heap.size, 4, none⟩ = some (.bool x.neg) := cell_of_row w1 _ 4 _ _ _ y1.out
  have hs1 : w.heap.size < w1.heap.size := by have := hb1.size; omega
  clear hb1 hp1 YA hsw
  obtain ⟨E, hE⟩ : ∃ E, E = porE n ps := ⟨_, rfl⟩
  rw [← hE]
  by_cases h0 : E = 0
  · obtain ⟨⟨n1, n2⟩, h3, -⟩ := HOK.out (by rw [← hE]; exact h0)
    have HE := Lib.hid (hE.symm.trans h0)
    subst h0
    clear hE
    go_wp2_with fail
    obtain ⟨w2, hw2, s2, y2, b2⟩ := one_box w1 (.cells #[I x.kind, I x.a, I x.b, I x.n, .bool x.neg] 71)
    rw [← hw2]
    clear hw2
    have hx : PorR w2 w2.heap.size (some ⟨w1.heap.size, 0, none⟩) [x] := fun _ => ⟨w1.heap.size, 0, rfl, by omega, fun j hj i u hu => by
      obtain rfl : j = 0 := by simpa using hj
      rw [cell_of_row w2 _ _ _ _ _ y2]
      simpa [porC] using hu⟩
    have hcall := checkPor_any n (some ⟨w1.heap.size, 0, none⟩) 1 [x] w2 hx (by simp [maxLen])
    refine hcall.mono ?_
    rintro e w3 ⟨rfl, hb3⟩
    have hp3 := por_call (b2.trans (hb3.mono b2.size)) hp2
    have hB3 := hB1.trans ((b2.trans (hb3.mono b2.size)).mono hB1.size)
    have y3 := Lib.hid (((b2.trans (hb3.mono b2.size)).block _ hs1).trans y1.out)
    have hs3 : w.heap.size < w3.heap.size := by have := hb3.size; omega
    have HX := Lib.hid (fun h => (porE_ok (n := n) (ps := [x]) h).2.2)
    obtain ⟨E, hE⟩ : ∃ E, E = porE n [x] := ⟨_, rfl⟩
    rw [← hE]
    clear hcall hx y2 s2 b2 hb3 hp2 y1 hs1 f0 f1 f2 f3 f4
    by_cases h0 : E = 0
    · have hpx := HX.out (by rw [← hE]; exact h0)
      have HPX := Lib.hid (show porM (n - 1) n x = true by simpa using hpx)
      subst h0
      clear hE HX hpx
      by_cases hl : ps.length < 20
      · have g3 : decide ((20 : Int) ≤ (ps.length : Int)) = false := decide_eq_false (by omega)
        have g4 : decide (20 ≤ ps.length) = false := decide_eq_false (by omega)
        have f0 : w3.cell? ⟨w.heap.size, 0, none⟩ = some (I x.kind) := cell_of_row w3 _ 0 _ _ _ y3.out
        have f1 : w3.cell? ⟨w.heap.size, 1, none⟩ = some (I x.a) := cell_of_row w3 _ 1 _ _ _ y3.out
        have f2 : w3.cell? ⟨w.heap.size, 2, none⟩ = some (I x.b) := cell_of_row w3 _ 2 _ _ _ y3.out
        have f3 : w3.cell? ⟨w.heap.size, 3, none⟩ = some (I x.n) := cell_of_row w3 _ 3 _ _ _ y3.out
        have f4 : w3.cell? ⟨w.heap.size, 4, none⟩ = some (.bool x.neg) := cell_of_row w3 _ 4 _ _ _ y3.out
        go_upto_region 4 with fail
        obtain ⟨w4, hw4, s4, z4, b4⟩ := one_box w3 (.cells #[I x.kind, I x.a, I x.b, I x.n, .bool x.neg] 71)
        rw [← hw4]
        clear hw4 f0 f1 f2 f3 f4
        have f5 : w4.cell? ⟨w3.heap.size, 4, none⟩ = some (.bool x.neg) := cell_of_row w4 _ 4 _ _ _ z4
        have hf := frozen_of_row z4 4
        go_upto_region 5 with fail
        obtain ⟨Z, hZ⟩ : ∃ Z, Z = w4.setCell ⟨w3.heap.size, 4, none⟩ (.bool !x.neg) := ⟨_, rfl⟩
        rw [← hZ]
        have hzr : Z.heap[w3.heap.size]? = some (.cells #[I x.kind, I x.a, I x.b, I x.n, .bool !x.neg] 71 (0, 0)) := by rw [hZ]; exact row_set z4 4 _
        have hbZ : Below w3.heap.size w3 Z := by rw [hZ]; exact b4.setCell (p := ⟨w3.heap.size, 4, none⟩) (Nat.le_refl _) _
        have hsZ : w3.heap.size < Z.heap.size := row_lt' hzr
        have hpZ := por_call hbZ hp3
        have hBZ := hB3.trans (hbZ.mono hB3.size)
        have yx := Lib.hid ((hbZ.block _ hs3).trans y3.out)
        have yy := Lib.hid hzr
        clear hZ hzr z4 b4 s4 f5 hf hp3 y3 hbZ
        have hall := Hangings_any n A c ps Z hpZ hpl
        rw [HE.out] at hall
        go_wp2_with fail
        refine hall.mono ?_
        rintro e w5 ⟨rfl, hb5⟩
        have hp5 := por_call hb5 hpZ
        have hB5 := hBZ.trans (hb5.mono hBZ.size)
        have y5 := Lib.hid ((hb5.block _ (by omega)).trans yx.out)
        have z5 := Lib.hid ((hb5.block _ hsZ).trans yy.out)
        have hs5 : w.heap.size < w5.heap.size := by have := hb5.size; omega
        have ht5 : w3.heap.size < w5.heap.size := by have := hb5.size; omega
        have fx : w5.heap[w.heap.size]? = some (.cells (porC x) 71 (0, 0)) := y5.out
        obtain ⟨y, hy⟩ : ∃ y : Por, y = { x with neg := !x.neg } := ⟨_, rfl⟩
        have fy : w5.heap[w3.heap.size]? = some (.cells (porC y) 71 (0, 0)) := by rw [hy]; exact z5.out
        have HS6 := Lib.hid (porE_snoc (x := x) HE.out HPX.out hl)
        have HS7 := Lib.hid (porE_snoc (x := y) HE.out (by rw [hy]; exact HPX.out) hl)
        have HY := Lib.hid hy
        obtain ⟨N0, hN0⟩ : ∃ N0 : Int, N0 = ((hngN n ps : Nat) : Int) := ⟨_, rfl⟩
        obtain ⟨N1, hN1⟩ : ∃ N1 : Int, N1 = ((hngN n (ps ++ [x]) : Nat) : Int) := ⟨_, rfl⟩
        obtain ⟨N2, hN2⟩ : ∃ N2 : Int, N2 = ((hngN n (ps ++ [y]) : Nat) : Int) := ⟨_, rfl⟩
        rw [← hN0]
        have HN0 := Lib.hid hN0
        have HN1 := Lib.hid hN1
        have HN2 := Lib.hid hN2
        have hc6 : ∀ A' c' V, PorR V V.heap.size A' (ps ++ [x]) → Calls Try.prog 48 #[I n, .slice A' (ps ++ [x]).length c'] V fun e w' => e = .returned (.tuple #[I N1, I 0]) ∧ Below V.heap.size V w' := fun A' c' V h => by
          have := Hangings_any n A' c' (ps ++ [x]) V h (by simp; unfold maxLen; omega)
          rw [HS6.out, ← HN1.out] at this
          exact this
        have hc7 : ∀ A' c' V, PorR V V.heap.size A' (ps ++ [y]) → Calls Try.prog 48 #[I n, .slice A' (ps ++ [y]).length c'] V fun e w' => e = .returned (.tuple #[I N2, I 0]) ∧ Below V.heap.size V w' := fun A' c' V h => by
          have := Hangings_any n A' c' (ps ++ [y]) V h (by simp; unfold maxLen; omega)
          rw [HS7.out, ← HN2.out] at this
          exact this
        have hpr := hp5
        clear hall hb5 hpZ yx yy hBZ hy hN0 hN1 hN2
        go_upto_region 6 with fail
        -- REGION6 BEGIN
        refine wp_region_inv (by kernel_rfl) (fun L ac w' => L.size = 12 ∧ ∃ u48 u49 u50 u51 u52 u53 u54 u47 u55 u56 u10 u11 : Value, ac = { tmps := #[I n, Value.slice A ps.length c, porV x, undef, undef, Value.pointer (some ⟨w.heap.size, 0, none⟩), Value.bool false, Value.pointer (some ⟨w3.heap.size, 0, none⟩), I N0, I 0, u10, u11, undef, undef, undef, undef, undef, undef, undef, I n, Value.slice A ps.length c, I 0, Value.bool false, Value.bool false, I n, porV x, Value.slice (some ⟨w1.heap.size, 0, none⟩) 1 1, I 0, Value.bool false, Value.bool false, Value.bool false, Value.slice A ps.length c, Value.int IntKind.i64 ↑ps.length, Value.bool false, Value.bool false, undef, porV x, Value.pointer (some ⟨w3.heap.size, 4, none⟩), Value.bool x.neg, Value.bool !x.neg, Value.pointer (some ⟨w3.heap.size, 4, none⟩), Value.tuple #[I N0, I 0], I n, Value.slice A ps.length c, Value.tuple #[I N0, I 0], I N0, I 0, u47, u48, u49, u50, u51, u52, u53, u54, u55, u56, undef, undef, undef, undef, undef, undef, undef, undef, undef, undef, undef, undef, undef, undef, undef, undef, undef, undef, undef, undef, undef, undef, undef, undef, undef, undef, undef, undef, undef, undef, undef, undef, undef, undef, undef, undef, undef, undef, undef, undef, undef, undef, undef, undef, undef, undef, undef, undef, undef, undef, undef, undef, undef, undef, undef, undef, undef, undef, undef, undef, undef, undef, undef, undef, undef, undef, undef, undef, undef, undef, undef, undef, undef, undef, undef, undef, undef, undef, undef, undef, undef, undef, undef, undef, undef, undef, undef, undef, undef, undef, undef, undef, undef, undef, undef, undef, undef, undef, undef, undef, undef, undef, undef], defers := [] } ∧ Below w5.heap.size w5 w' ∧ (L.getD 0 false = true → u48 = I n) ∧ (L.getD 1 false = true → u49 = Value.slice A ps.length c) ∧ (L.getD 3 false = true → u51 = porV x) ∧ (L.getD 6 false = true → u54 = Value.tuple #[I N1, I 0]) ∧ (L.getD 7 false = true → u47 = Value.tuple #[I N1, I 0]) ∧ (L.getD 8 false = true → u55 = I N1) ∧ (L.getD 9 false = true → u56 = I 0) ∧ (L.getD 10 false = true → u10 = I N1) ∧ (L.getD 11 false = true → u11 = I 0) ∧ (L.getD 2 false = true → L.getD 5 false = false → OwnP w' w5.heap.size ps.length u50 ps) ∧ (L.getD 4 false = true → L.getD 5 false = false → OneP w' w5.heap.size u52 x) ∧ (L.getD 5 false = true → L.getD 6 false = false → OwnP w' w5.heap.size (ps.length + 1) u53 (ps ++ [x]))) ?h0 ?hs ?hd
        case h0 => exact ⟨by simp, _, _, _, _, _, _, _, _, _, _, _, _, rfl, (Below.refl _ _).drew, by simp, by simp, by simp, by simp, by simp, by simp, by simp, by simp, by simp, by simp, by simp, by simp⟩
        case hs =>
          rintro i L ac w' ⟨hL, u48, u49, u50, u51, u52, u53, u54, u47, u55, u56, u10, u11, rfl, hbw', h0, h1, h3, h6, h7, h8, h9, h10, h11, kA, kO, kB⟩ hi
          have hcases : i = 0 ∨ i = 1 ∨ i = 2 ∨ i = 3 ∨ i = 4 ∨ i = 5 ∨ i = 6 ∨ i = 7 ∨ i = 8 ∨ i = 9 ∨ i = 10 ∨ i = 11 := by
            have : i < 12 := ready_lt hi
            omega
          have hn := ready_not' hi (by have : i < 12 := ready_lt hi; omega)
          have hsz := hbw'.size
          rcases hcases with rfl | rfl | rfl | rfl | rfl | rfl | rfl | rfl | rfl | rfl | rfl | rfl
          · refine wpOp_val (I n) rfl (by rfl) (by go_simp) ?_
            exact ⟨by simpa using hL, _, _, _, _, _, _, _, _, _, _, _, _, rfl, hbw', fun _ => rfl, fun h => h1 ((set_other (by decide)).symm.trans h), fun h => h3 ((set_other (by decide)).symm.trans h), fun h => h6 ((set_other (by decide)).symm.trans h), fun h => h7 ((set_other (by decide)).symm.trans h), fun h => h8 ((set_other (by decide)).symm.trans h), fun h => h9 ((set_other (by decide)).symm.trans h), fun h => h10 ((set_other (by decide)).symm.trans h), fun h => h11 ((set_other (by decide)).symm.trans h), fun h h6 => kA ((set_other (by decide)).symm.trans h) ((set_other (by decide)).symm.trans h6), fun h h6 => kO ((set_other (by decide)).symm.trans h) ((set_other (by decide)).symm.trans h6), fun h h6 => kB ((set_other (by decide)).symm.trans h) ((set_other (by decide)).symm.trans h6)⟩
          · refine wpOp_val (Value.slice A ps.length c) rfl (by rfl) (by go_simp) ?_
            exact ⟨by simpa using hL, _, _, _, _, _, _, _, _, _, _, _, _, rfl, hbw', fun h => h0 ((set_other (by decide)).symm.trans h), fun _ => rfl, fun h => h3 ((set_other (by decide)).symm.trans h), fun h => h6 ((set_other (by decide)).symm.trans h), fun h => h7 ((set_other (by decide)).symm.trans h), fun h => h8 ((set_other (by decide)).symm.trans h), fun h => h9 ((set_other (by decide)).symm.trans h), fun h => h10 ((set_other (by decide)).symm.trans h), fun h => h11 ((set_other (by decide)).symm.trans h), fun h h6 => kA ((set_other (by decide)).symm.trans h) ((set_other (by decide)).symm.trans h6), fun h h6 => kO ((set_other (by decide)).symm.trans h) ((set_other (by decide)).symm.trans h6), fun h h6 => kB ((set_other (by decide)).symm.trans h) ((set_other (by decide)).symm.trans h6)⟩
          · obtain rfl := h1 (ready_dep hi 1 (by kernel_rfl))
            refine wpOp_wp rfl (by rfl) (wp_append_pors _ _ rfl rfl A c ps rfl (por_call hbw' hpr) hl w5.heap.size hsz fun v' w'' g1 g2 => ?_)
            exact ⟨by simpa using hL, _, _, _, _, _, _, _, _, _, _, _, _, rfl, (below_nil hbw' g2 (Nat.le_refl _)), fun h => h0 ((set_other (by decide)).symm.trans h), fun h => h1 ((set_other (by decide)).symm.trans h), fun h => h3 ((set_other (by decide)).symm.trans h), fun h => h6 ((set_other (by decide)).symm.trans h), fun h => h7 ((set_other (by decide)).symm.trans h), fun h => h8 ((set_other (by decide)).symm.trans h), fun h => h9 ((set_other (by decide)).symm.trans h), fun h => h10 ((set_other (by decide)).symm.trans h), fun h => h11 ((set_other (by decide)).symm.trans h), fun _ _ => g1, fun h h6 => OneP.grown (kO ((set_other (by decide)).symm.trans h) ((set_other (by decide)).symm.trans h6)) (g2), fun h h6 => own_grown (kB ((set_other (by decide)).symm.trans h) ((set_other (by decide)).symm.trans h6)) (g2)⟩
          · have r := (hbw'.block _ hs5).trans fx
            have e0 := cell_of_row w' w.heap.size 0 _ _ _ r
            have e1 := cell_of_row w' w.heap.size 1 _ _ _ r
            have e2 := cell_of_row w' w.heap.size 2 _ _ _ r
            have e3 := cell_of_row w' w.heap.size 3 _ _ _ r
            have e4 := cell_of_row w' w.heap.size 4 _ _ _ r
            simp only [porC] at e0 e1 e2 e3 e4
            clear r
            refine wpOp_val (porV x) rfl (by rfl) (by go_simp) ?_
            exact ⟨by simpa using hL, _, _, _, _, _, _, _, _, _, _, _, _, rfl, hbw', fun h => h0 ((set_other (by decide)).symm.trans h), fun h => h1 ((set_other (by decide)).symm.trans h), fun _ => rfl, fun h => h6 ((set_other (by decide)).symm.trans h), fun h => h7 ((set_other (by decide)).symm.trans h), fun h => h8 ((set_other (by decide)).symm.trans h), fun h => h9 ((set_other (by decide)).symm.trans h), fun h => h10 ((set_other (by decide)).symm.trans h), fun h => h11 ((set_other (by decide)).symm.trans h), fun h h6 => kA ((set_other (by decide)).symm.trans h) ((set_other (by decide)).symm.trans h6), fun h h6 => kO ((set_other (by decide)).symm.trans h) ((set_other (by decide)).symm.trans h6), fun h h6 => kB ((set_other (by decide)).symm.trans h) ((set_other (by decide)).symm.trans h6)⟩
          · obtain rfl := h3 (ready_dep hi 3 (by kernel_rfl))
            refine wpOp_wp rfl (by rfl) (opwp_res (r := .ok (.value (.slice (some ⟨w'.heap.size, 0, none⟩) 1 1)) (w'.alloc (.cells (porC x) 71))) (by go_simp; rfl) ?_)
            exact ⟨by simpa using hL, _, _, _, _, _, _, _, _, _, _, _, _, rfl, (hbw'.alloc hsz _), fun h => h0 ((set_other (by decide)).symm.trans h), fun h => h1 ((set_other (by decide)).symm.trans h), fun h => h3 ((set_other (by decide)).symm.trans h), fun h => h6 ((set_other (by decide)).symm.trans h), fun h => h7 ((set_other (by decide)).symm.trans h), fun h => h8 ((set_other (by decide)).symm.trans h), fun h => h9 ((set_other (by decide)).symm.trans h), fun h => h10 ((set_other (by decide)).symm.trans h), fun h => h11 ((set_other (by decide)).symm.trans h), fun h h6 => own_grown (kA ((set_other (by decide)).symm.trans h) ((set_other (by decide)).symm.trans h6)) (World.grownBy_alloc _ _ _), fun _ _ => OneP.alloc x hsz, fun h h6 => own_grown (kB ((set_other (by decide)).symm.trans h) ((set_other (by decide)).symm.trans h6)) (World.grownBy_alloc _ _ _)⟩
          · have hA := kA (ready_dep hi 2 (by kernel_rfl)) hn
            obtain ⟨bo, rfl, hbo, hblk⟩ := kO (ready_dep hi 4 (by kernel_rfl)) hn
            refine wpOp_wp rfl (by rfl) (wp_append_por _ _ rfl u50 rfl ps ps.length w5.heap.size hsz hA hl bo x rfl hblk fun v' w'' g1 g2 => ?_)
            exact ⟨by simpa using hL, _, _, _, _, _, _, _, _, _, _, _, _, rfl, (below_own hbw' hA g2 (Nat.le_refl _)), fun h => h0 ((set_other (by decide)).symm.trans h), fun h => h1 ((set_other (by decide)).symm.trans h), fun h => h3 ((set_other (by decide)).symm.trans h), fun h => h6 ((set_other (by decide)).symm.trans h), fun h => h7 ((set_other (by decide)).symm.trans h), fun h => h8 ((set_other (by decide)).symm.trans h), fun h => h9 ((set_other (by decide)).symm.trans h), fun h => h10 ((set_other (by decide)).symm.trans h), fun h => h11 ((set_other (by decide)).symm.trans h), fun _ h6 => (not_bumpedP (by omega) h6).elim, fun _ h6 => (not_bumpedP (by omega) h6).elim, fun _ _ => g1⟩
          · obtain rfl := h0 (ready_dep hi 0 (by kernel_rfl))
            obtain ⟨A', c', e60, hcl⟩ := own_por (kB (ready_dep hi 5 (by kernel_rfl)) hn) (by simp)
            subst e60
            have hcall := hc6 A' c' w' hcl
            refine wpOp_wp rfl (by rfl) (wp_call_fns (vs := #[I n, .slice A' (ps ++ [x]).length c']) rfl (by simp [Act.eval]) (enters_of Try.func48 (by kernel_rfl) rfl) (hcall.mono ?_))
            rintro e wv ⟨rfl, hb⟩
            exact ⟨by simpa using hL, _, _, _, _, _, _, _, _, _, _, _, _, rfl, (hbw'.trans (hb.mono hsz)), fun h => h0 ((set_other (by decide)).symm.trans h), fun h => h1 ((set_other (by decide)).symm.trans h), fun h => h3 ((set_other (by decide)).symm.trans h), fun _ => rfl, fun h => h7 ((set_other (by decide)).symm.trans h), fun h => h8 ((set_other (by decide)).symm.trans h), fun h => h9 ((set_other (by decide)).symm.trans h), fun h => h10 ((set_other (by decide)).symm.trans h), fun h => h11 ((set_other (by decide)).symm.trans h), fun h h6 => own_grown (kA ((set_other (by decide)).symm.trans h) ((set_other (by decide)).symm.trans h6)) (grown_of_below hb (Nat.le_refl _)), fun h h6 => OneP.grown (kO ((set_other (by decide)).symm.trans h) ((set_other (by decide)).symm.trans h6)) (grown_of_below hb (Nat.le_refl _)), fun _ h6 => (not_bumpedP (by omega) h6).elim⟩
          · obtain rfl := h6 (ready_dep hi 6 (by kernel_rfl))
            refine wpOp_val (Value.tuple #[I N1, I 0]) rfl (by rfl) (by go_simp) ?_
            exact ⟨by simpa using hL, _, _, _, _, _, _, _, _, _, _, _, _, rfl, hbw', fun h => h0 ((set_other (by decide)).symm.trans h), fun h => h1 ((set_other (by decide)).symm.trans h), fun h => h3 ((set_other (by decide)).symm.trans h), fun h => h6 ((set_other (by decide)).symm.trans h), fun _ => rfl, fun h => h8 ((set_other (by decide)).symm.trans h), fun h => h9 ((set_other (by decide)).symm.trans h), fun h => h10 ((set_other (by decide)).symm.trans h), fun h => h11 ((set_other (by decide)).symm.trans h), fun h h6 => kA ((set_other (by decide)).symm.trans h) ((set_other (by decide)).symm.trans h6), fun h h6 => kO ((set_other (by decide)).symm.trans h) ((set_other (by decide)).symm.trans h6), fun h h6 => kB ((set_other (by decide)).symm.trans h) ((set_other (by decide)).symm.trans h6)⟩
          · obtain rfl := h7 (ready_dep hi 7 (by kernel_rfl))
            refine wpOp_val (I N1) rfl (by rfl) (by go_simp) ?_
            exact ⟨by simpa using hL, _, _, _, _, _, _, _, _, _, _, _, _, rfl, hbw', fun h => h0 ((set_other (by decide)).symm.trans h), fun h => h1 ((set_other (by decide)).symm.trans h), fun h => h3 ((set_other (by decide)).symm.trans h), fun h => h6 ((set_other (by decide)).symm.trans h), fun h => h7 ((set_other (by decide)).symm.trans h), fun _ => rfl, fun h => h9 ((set_other (by decide)).symm.trans h), fun h => h10 ((set_other (by decide)).symm.trans h), fun h => h11 ((set_other (by decide)).symm.trans h), fun h h6 => kA ((set_other (by decide)).symm.trans h) ((set_other (by decide)).symm.trans h6), fun h h6 => kO ((set_other (by decide)).symm.trans h) ((set_other (by decide)).symm.trans h6), fun h h6 => kB ((set_other (by decide)).symm.trans h) ((set_other (by decide)).symm.trans h6)⟩
          · obtain rfl := h7 (ready_dep hi 7 (by kernel_rfl))
            refine wpOp_val (I 0) rfl (by rfl) (by go_simp) ?_
            exact ⟨by simpa using hL, _, _, _, _, _, _, _, _, _, _, _, _, rfl, hbw', fun h => h0 ((set_other (by decide)).symm.trans h), fun h => h1 ((set_other (by decide)).symm.trans h), fun h => h3 ((set_other (by decide)).symm.trans h), fun h => h6 ((set_other (by decide)).symm.trans h), fun h => h7 ((set_other (by decide)).symm.trans h), fun h => h8 ((set_other (by decide)).symm.trans h), fun _ => rfl, fun h => h10 ((set_other (by decide)).symm.trans h), fun h => h11 ((set_other (by decide)).symm.trans h), fun h h6 => kA ((set_other (by decide)).symm.trans h) ((set_other (by decide)).symm.trans h6), fun h h6 => kO ((set_other (by decide)).symm.trans h) ((set_other (by decide)).symm.trans h6), fun h h6 => kB ((set_other (by decide)).symm.trans h) ((set_other (by decide)).symm.trans h6)⟩
          · obtain rfl := h8 (ready_dep hi 8 (by kernel_rfl))
            refine wpOp_val (I N1) rfl (by rfl) (by go_simp) ?_
            exact ⟨by simpa using hL, _, _, _, _, _, _, _, _, _, _, _, _, rfl, hbw', fun h => h0 ((set_other (by decide)).symm.trans h), fun h => h1 ((set_other (by decide)).symm.trans h), fun h => h3 ((set_other (by decide)).symm.trans h), fun h => h6 ((set_other (by decide)).symm.trans h), fun h => h7 ((set_other (by decide)).symm.trans h), fun h => h8 ((set_other (by decide)).symm.trans h), fun h => h9 ((set_other (by decide)).symm.trans h), fun _ => rfl, fun h => h11 ((set_other (by decide)).symm.trans h), fun h h6 => kA ((set_other (by decide)).symm.trans h) ((set_other (by decide)).symm.trans h6), fun h h6 => kO ((set_other (by decide)).symm.trans h) ((set_other (by decide)).symm.trans h6), fun h h6 => kB ((set_other (by decide)).symm.trans h) ((set_other (by decide)).symm.trans h6)⟩
          · obtain rfl := h9 (ready_dep hi 9 (by kernel_rfl))
            refine wpOp_val (I 0) rfl (by rfl) (by go_simp) ?_
            exact ⟨by simpa using hL, _, _, _, _, _, _, _, _, _, _, _, _, rfl, hbw', fun h => h0 ((set_other (by decide)).symm.trans h), fun h => h1 ((set_other (by decide)).symm.trans h), fun h => h3 ((set_other (by decide)).symm.trans h), fun h => h6 ((set_other (by decide)).symm.trans h), fun h => h7 ((set_other (by decide)).symm.trans h), fun h => h8 ((set_other (by decide)).symm.trans h), fun h => h9 ((set_other (by decide)).symm.trans h), fun h => h10 ((set_other (by decide)).symm.trans h), fun _ => rfl, fun h h6 => kA ((set_other (by decide)).symm.trans h) ((set_other (by decide)).symm.trans h6), fun h h6 => kO ((set_other (by decide)).symm.trans h) ((set_other (by decide)).symm.trans h6), fun h h6 => kB ((set_other (by decide)).symm.trans h) ((set_other (by decide)).symm.trans h6)⟩
        case hd =>
          rintro L ac w' ⟨hL, u48, u49, u50, u51, u52, u53, u54, u47, u55, u56, u10, u11, rfl, hbw', h0, h1, h3, h6, h7, h8, h9, h10, h11, kA, kO, kB⟩ hr
          have hall := all_listed hL (by kernel_rfl) hr
          obtain rfl := h0 (hall 0 (by decide))
          obtain rfl := h1 (hall 1 (by decide))
          obtain rfl := h3 (hall 3 (by decide))
          obtain rfl := h6 (hall 6 (by decide))
          obtain rfl := h7 (hall 7 (by decide))
          obtain rfl := h8 (hall 8 (by decide))
          obtain rfl := h9 (hall 9 (by decide))
          obtain rfl := h10 (hall 10 (by decide))
          obtain rfl := h11 (hall 11 (by decide))
          clear hall hr hL kA kO kB
          try dsimp only
        -- REGION6 END
          have fy := (hbw'.block _ ht5).trans fy
          have hp6 := por_call hbw' hp5
          have hB6 := hB5.trans (hbw'.mono hB5.size)
          have ht6 : w3.heap.size < w'.heap.size := by have := hbw'.size; omega
          obtain ⟨w6, hw6⟩ : ∃ w6, w6 = w' := ⟨_, rfl⟩
          rw [← hw6] at fy hp6 hB6 ht6 ⊢
          have hpr := hp6
          clear hw6 hbw' hp5 hB5 fx y5 z5 hs5 ht5 hc6
          go_upto_region 7 with fail
          -- REGION7 BEGIN
          refine wp_region_inv (by kernel_rfl) (fun L ac w' => L.size = 12 ∧ ∃ u58 u59 u60 u61 u62 u63 u64 u57 u65 u66 u12 u13 : Value, ac = { tmps := #[I n, Value.slice A ps.length c, porV x, undef, undef, Value.pointer (some ⟨w.heap.size, 0, none⟩), Value.bool false, Value.pointer (some ⟨w3.heap.size, 0, none⟩), I N0, I 0, I N1, I 0, u12, u13, undef, undef, undef, undef, undef, I n, Value.slice A ps.length c, I 0, Value.bool false, Value.bool false, I n, porV x, Value.slice (some ⟨w1.heap.size, 0, none⟩) 1 1, I 0, Value.bool false, Value.bool false, Value.bool false, Value.slice A ps.length c, Value.int IntKind.i64 ↑ps.length, Value.bool false, Value.bool false, undef, porV x, Value.pointer (some ⟨w3.heap.size, 4, none⟩), Value.bool x.neg, Value.bool !x.neg, Value.pointer (some ⟨w3.heap.size, 4, none⟩), Value.tuple #[I N0, I 0], I n, Value.slice A ps.length c, Value.tuple #[I N0, I 0], I N0, I 0, Value.tuple #[I N1, I 0], I n, Value.slice A ps.length c, u50, porV x, u52, u53, Value.tuple #[I N1, I 0], I N1, I 0, u57, u58, u59, u60, u61, u62, u63, u64, u65, u66, undef, undef, undef, undef, undef, undef, undef, undef, undef, undef, undef, undef, undef, undef, undef, undef, undef, undef, undef, undef, undef, undef, undef, undef, undef, undef, undef, undef, undef, undef, undef, undef, undef, undef, undef, undef, undef, undef, undef, undef, undef, undef, undef, undef, undef, undef, undef, undef, undef, undef, undef, undef, undef, undef, undef, undef, undef, undef, undef, undef, undef, undef, undef, undef, undef, undef, undef, undef, undef, undef, undef, undef, undef, undef, undef, undef, undef, undef, undef, undef, undef, undef, undef, undef, undef, undef, undef, undef, undef, undef, undef, undef, undef], defers := [] } ∧ Below w6.heap.size w6 w' ∧ (L.getD 0 false = true → u58 = I n) ∧ (L.getD 1 false = true → u59 = Value.slice A ps.length c) ∧ (L.getD 3 false = true → u61 = porV y) ∧ (L.getD 6 false = true → u64 = Value.tuple #[I N2, I 0]) ∧ (L.getD 7 false = true → u57 = Value.tuple #[I N2, I 0]) ∧ (L.getD 8 false = true → u65 = I N2) ∧ (L.getD 9 false = true → u66 = I 0) ∧ (L.getD 10 false = true → u12 = I N2) ∧ (L.getD 11 false = true → u13 = I 0) ∧ (L.getD 2 false = true → L.getD 5 false = false → OwnP w' w6.heap.size ps.length u60 ps) ∧ (L.getD 4 false = true → L.getD 5 false = false → OneP w' w6.heap.size u62 y) ∧ (L.getD 5 false = true → L.getD 6 false = false → OwnP w' w6.heap.size (ps.length + 1) u63 (ps ++ [y]))) ?h0 ?hs ?hd
          case h0 => exact ⟨by simp, _, _, _, _, _, _, _, _, _, _, _, _, rfl, (Below.refl _ _).drew, by simp, by simp, by simp, by simp, by simp, by simp, by simp, by simp, by simp, by simp, by simp, by simp⟩
          case hs =>
            rintro i L ac w' ⟨hL, u58, u59, u60, u61, u62, u63, u64, u57, u65, u66, u12, u13, rfl, hbw', h0, h1, h3, h6, h7, h8, h9, h10, h11, kA, kO, kB⟩ hi
            have hcases : i = 0 ∨ i = 1 ∨ i = 2 ∨ i = 3 ∨ i = 4 ∨ i = 5 ∨ i = 6 ∨ i = 7 ∨ i = 8 ∨ i = 9 ∨ i = 10 ∨ i = 11 := by
              have : i < 12 := ready_lt hi
              omega
            have hn := ready_not' hi (by have : i < 12 := ready_lt hi; omega)
            have hsz := hbw'.size
            rcases hcases with rfl | rfl | rfl | rfl | rfl | rfl | rfl | rfl | rfl | rfl | rfl | rfl
            · refine wpOp_val (I n) rfl (by rfl) (by go_simp) ?_
              exact ⟨by simpa using hL, _, _, _, _, _, _, _, _, _, _, _, _, rfl, hbw', fun _ => rfl, fun h => h1 ((set_other (by decide)).symm.trans h), fun h => h3 ((set_other (by decide)).symm.trans h), fun h => h6 ((set_other (by decide)).symm.trans h), fun h => h7 ((set_other (by decide)).symm.trans h), fun h => h8 ((set_other (by decide)).symm.trans h), fun h => h9 ((set_other (by decide)).symm.trans h), fun h => h10 ((set_other (by decide)).symm.trans h), fun h => h11 ((set_other (by decide)).symm.trans h), fun h h6 => kA ((set_other (by decide)).symm.trans h) ((set_other (by decide)).symm.trans h6), fun h h6 => kO ((set_other (by decide)).symm.trans h) ((set_other (by decide)).symm.trans h6), fun h h6 => kB ((set_other (by decide)).symm.trans h) ((set_other (by decide)).symm.trans h6)⟩
            · refine wpOp_val (Value.slice A ps.length c) rfl (by rfl) (by go_simp) ?_
              exact ⟨by simpa using hL, _, _, _, _, _, _, _, _, _, _, _, _, rfl, hbw', fun h => h0 ((set_other (by decide)).symm.trans h), fun _ => rfl, fun h => h3 ((set_other (by decide)).symm.trans h), fun h => h6 ((set_other (by decide)).symm.trans h), fun h => h7 ((set_other (by decide)).symm.trans h), fun h => h8 ((set_other (by decide)).symm.trans h), fun h => h9 ((set_other (by decide)).symm.trans h), fun h => h10 ((set_other (by decide)).symm.trans h), fun h => h11 ((set_other (by decide)).symm.trans h), fun h h6 => kA ((set_other (by decide)).symm.trans h) ((set_other (by decide)).symm.trans h6), fun h h6 => kO ((set_other (by decide)).symm.trans h) ((set_other (by decide)).symm.trans h6), fun h h6 => kB ((set_other (by decide)).symm.trans h) ((set_other (by decide)).symm.trans h6)⟩
            · obtain rfl := h1 (ready_dep hi 1 (by kernel_rfl))
              refine wpOp_wp rfl (by rfl) (wp_append_pors _ _ rfl rfl A c ps rfl (por_call hbw' hpr) hl w6.heap.size hsz fun v' w'' g1 g2 => ?_)
              exact ⟨by simpa using hL, _, _, _, _, _, _, _, _, _, _, _, _, rfl, (below_nil hbw' g2 (Nat.le_refl _)), fun h => h0 ((set_other (by decide)).symm.trans h), fun h => h1 ((set_other (by decide)).symm.trans h), fun h => h3 ((set_other (by decide)).symm.trans h), fun h => h6 ((set_other (by decide)).symm.trans h), fun h => h7 ((set_other (by decide)).symm.trans h), fun h => h8 ((set_other (by decide)).symm.trans h), fun h => h9 ((set_other (by decide)).symm.trans h), fun h => h10 ((set_other (by decide)).symm.trans h), fun h => h11 ((set_other (by decide)).symm.trans h), fun _ _ => g1, fun h h6 => OneP.grown (kO ((set_other (by decide)).symm.trans h) ((set_other (by decide)).symm.trans h6)) (g2), fun h h6 => own_grown (kB ((set_other (by decide)).symm.trans h) ((set_other (by decide)).symm.trans h6)) (g2)⟩
            · have r := (hbw'.block _ ht6).trans fy
              have e0 := cell_of_row w' w3.heap.size 0 _ _ _ r
              have e1 := cell_of_row w' w3.heap.size 1 _ _ _ r
              have e2 := cell_of_row w' w3.heap.size 2 _ _ _ r
              have e3 := cell_of_row w' w3.heap.size 3 _ _ _ r
              have e4 := cell_of_row w' w3.heap.size 4 _ _ _ r
              simp only [porC] at e0 e1 e2 e3 e4
              clear r
              refine wpOp_val (porV y) rfl (by rfl) (by go_simp) ?_
              exact ⟨by simpa using hL, _, _, _, _, _, _, _, _, _, _, _, _, rfl, hbw', fun h => h0 ((set_other (by decide)).symm.trans h), fun h => h1 ((set_other (by decide)).symm.trans h), fun _ => rfl, fun h => h6 ((set_other (by decide)).symm.trans h), fun h => h7 ((set_other (by decide)).symm.trans h), fun h => h8 ((set_other (by decide)).symm.trans h), fun h => h9 ((set_other (by decide)).symm.trans h), fun h => h10 ((set_other (by decide)).symm.trans h), fun h => h11 ((set_other (by decide)).symm.trans h), fun h h6 => kA ((set_other (by decide)).symm.trans h) ((set_other (by decide)).symm.trans h6), fun h h6 => kO ((set_other (by decide)).symm.trans h) ((set_other (by decide)).symm.trans h6), fun h h6 => kB ((set_other (by decide)).symm.trans h) ((set_other (by decide)).symm.trans h6)⟩
            · obtain rfl := h3 (ready_dep hi 3 (by kernel_rfl))
              refine wpOp_wp rfl (by rfl) (opwp_res (r := .ok (.value (.slice (some ⟨w'.heap.size, 0, none⟩) 1 1)) (w'.alloc (.cells (porC y) 71))) (by go_simp; rfl) ?_)
              exact ⟨by simpa using hL, _, _, _, _, _, _, _, _, _, _, _, _, rfl, (hbw'.alloc hsz _), fun h => h0 ((set_other (by decide)).symm.trans h), fun h => h1 ((set_other (by decide)).symm.trans h), fun h => h3 ((set_other (by decide)).symm.trans h), fun h => h6 ((set_other (by decide)).symm.trans h), fun h => h7 ((set_other (by decide)).symm.trans h), fun h => h8 ((set_other (by decide)).symm.trans h), fun h => h9 ((set_other (by decide)).symm.trans h), fun h => h10 ((set_other (by decide)).symm.trans h), fun h => h11 ((set_other (by decide)).symm.trans h), fun h h6 => own_grown (kA ((set_other (by decide)).symm.trans h) ((set_other (by decide)).symm.trans h6)) (World.grownBy_alloc _ _ _), fun _ _ => OneP.alloc y hsz, fun h h6 => own_grown (kB ((set_other (by decide)).symm.trans h) ((set_other (by decide)).symm.trans h6)) (World.grownBy_alloc _ _ _)⟩
            · have hA := kA (ready_dep hi 2 (by kernel_rfl)) hn
              obtain ⟨bo, rfl, hbo, hblk⟩ := kO (ready_dep hi 4 (by kernel_rfl)) hn
              refine wpOp_wp rfl (by rfl) (wp_append_por _ _ rfl u60 rfl ps ps.length w6.heap.size hsz hA hl bo y rfl hblk fun v' w'' g1 g2 => ?_)
              exact ⟨by simpa using hL, _, _, _, _, _, _, _, _, _, _, _, _, rfl, (below_own hbw' hA g2 (Nat.le_refl _)), fun h => h0 ((set_other (by decide)).symm.trans h), fun h => h1 ((set_other (by decide)).symm.trans h), fun h => h3 ((set_other (by decide)).symm.trans h), fun h => h6 ((set_other (by decide)).symm.trans h), fun h => h7 ((set_other (by decide)).symm.trans h), fun h => h8 ((set_other (by decide)).symm.trans h), fun h => h9 ((set_other (by decide)).symm.trans h), fun h => h10 ((set_other (by decide)).symm.trans h), fun h => h11 ((set_other (by decide)).symm.trans h), fun _ h6 => (not_bumpedP (by omega) h6).elim, fun _ h6 => (not_bumpedP (by omega) h6).elim, fun _ _ => g1⟩
            · obtain rfl := h0 (ready_dep hi 0 (by kernel_rfl))
              obtain ⟨A', c', e60, hcl⟩ := own_por (kB (ready_dep hi 5 (by kernel_rfl)) hn) (by simp)
              subst e60
              have hcall := hc7 A' c' w' hcl
              refine wpOp_wp rfl (by rfl) (wp_call_fns (vs := #[I n, .slice A' (ps ++ [y]).length c']) rfl (by simp [Act.eval]) (enters_of Try.func48 (by kernel_rfl) rfl) (hcall.mono ?_))
              rintro e wv ⟨rfl, hb⟩
              exact ⟨by simpa using hL, _, _, _, _, _, _, _, _, _, _, _, _, rfl, (hbw'.trans (hb.mono hsz)), fun h => h0 ((set_other (by decide)).symm.trans h), fun h => h1 ((set_other (by decide)).symm.trans h), fun h => h3 ((set_other (by decide)).symm.trans h), fun _ => rfl, fun h => h7 ((set_other (by decide)).symm.trans h), fun h => h8 ((set_other (by decide)).symm.trans h), fun h => h9 ((set_other (by decide)).symm.trans h), fun h => h10 ((set_other (by decide)).symm.trans h), fun h => h11 ((set_other (by decide)).symm.trans h), fun h h6 => own_grown (kA ((set_other (by decide)).symm.trans h) ((set_other (by decide)).symm.trans h6)) (grown_of_below hb (Nat.le_refl _)), fun h h6 => OneP.grown (kO ((set_other (by decide)).symm.trans h) ((set_other (by decide)).symm.trans h6)) (grown_of_below hb (Nat.le_refl _)), fun _ h6 => (not_bumpedP (by omega) h6).elim⟩
            · obtain rfl := h6 (ready_dep hi 6 (by kernel_rfl))
              refine wpOp_val (Value.tuple #[I N2, I 0]) rfl (by rfl) (by go_simp) ?_
              exact ⟨by simpa using hL, _, _, _, _, _, _, _, _, _, _, _, _, rfl, hbw', fun h => h0 ((set_other (by decide)).symm.trans h), fun h => h1 ((set_other (by decide)).symm.trans h), fun h => h3 ((set_other (by decide)).symm.trans h), fun h => h6 ((set_other (by decide)).symm.trans h), fun _ => rfl, fun h => h8 ((set_other (by decide)).symm.trans h), fun h => h9 ((set_other (by decide)).symm.trans h), fun h => h10 ((set_other (by decide)).symm.trans h), fun h => h11 ((set_other (by decide)).symm.trans h), fun h h6 => kA ((set_other (by decide)).symm.trans h) ((set_other (by decide)).symm.trans h6), fun h h6 => kO ((set_other (by decide)).symm.trans h) ((set_other (by decide)).symm.trans h6), fun h h6 => kB ((set_other (by decide)).symm.trans h) ((set_other (by decide)).symm.trans h6)⟩
            · obtain rfl := h7 (ready_dep hi 7 (by kernel_rfl))
              refine wpOp_val (I N2) rfl (by rfl) (by go_simp) ?_
              exact ⟨by simpa using hL, _, _, _, _, _, _, _, _, _, _, _, _, rfl, hbw', fun h => h0 ((set_other (by decide)).symm.trans h), fun h => h1 ((set_other (by decide)).symm.trans h), fun h => h3 ((set_other (by decide)).symm.trans h), fun h => h6 ((set_other (by decide)).symm.trans h), fun h => h7 ((set_other (by decide)).symm.trans h), fun _ => rfl, fun h => h9 ((set_other (by decide)).symm.trans h), fun h => h10 ((set_other (by decide)).symm.trans h), fun h => h11 ((set_other (by decide)).symm.trans h), fun h h6 => kA ((set_other (by decide)).symm.trans h) ((set_other (by decide)).symm.trans h6), fun h h6 => kO ((set_other (by decide)).symm.trans h) ((set_other (by decide)).symm.trans h6), fun h h6 => kB ((set_other (by decide)).symm.trans h) ((set_other (by decide)).symm.trans h6)⟩
            · obtain rfl := h7 (ready_dep hi 7 (by kernel_rfl))
              refine wpOp_val (I 0) rfl (by rfl) (by go_simp) ?_
              exact ⟨by simpa using hL, _, _, _, _, _, _, _, _, _, _, _, _, rfl, hbw', fun h => h0 ((set_other (by decide)).symm.trans h), fun h => h1 ((set_other (by decide)).symm.trans h), fun h => h3 ((set_other (by decide)).symm.trans h), fun h => h6 ((set_other (by decide)).symm.trans h), fun h => h7 ((set_other (by decide)).symm.trans h), fun h => h8 ((set_other (by decide)).symm.trans h), fun _ => rfl, fun h => h10 ((set_other (by decide)).symm.trans h), fun h => h11 ((set_other (by decide)).symm.trans h), fun h h6 => kA ((set_other (by decide)).symm.trans h) ((set_other (by decide)).symm.trans h6), fun h h6 => kO ((set_other (by decide)).symm.trans h) ((set_other (by decide)).symm.trans h6), fun h h6 => kB ((set_other (by decide)).symm.trans h) ((set_other (by decide)).symm.trans h6)⟩
            · obtain rfl := h8 (ready_dep hi 8 (by kernel_rfl))
              refine wpOp_val (I N2) rfl (by rfl) (by go_simp) ?_
              exact ⟨by simpa using hL, _, _, _, _, _, _, _, _, _, _, _, _, rfl, hbw', fun h => h0 ((set_other (by decide)).symm.trans h), fun h => h1 ((set_other (by decide)).symm.trans h), fun h => h3 ((set_other (by decide)).symm.trans h), fun h => h6 ((set_other (by decide)).symm.trans h), fun h => h7 ((set_other (by decide)).symm.trans h), fun h => h8 ((set_other (by decide)).symm.trans h), fun h => h9 ((set_other (by decide)).symm.trans h), fun _ => rfl, fun h => h11 ((set_other (by decide)).symm.trans h), fun h h6 => kA ((set_other (by decide)).symm.trans h) ((set_other (by decide)).symm.trans h6), fun h h6 => kO ((set_other (by decide)).symm.trans h) ((set_other (by decide)).symm.trans h6), fun h h6 => kB ((set_other (by decide)).symm.trans h) ((set_other (by decide)).symm.trans h6)⟩
            · obtain rfl := h9 (ready_dep hi 9 (by kernel_rfl))
              refine wpOp_val (I 0) rfl (by rfl) (by go_simp) ?_
              exact ⟨by simpa using hL, _, _, _, _, _, _, _, _, _, _, _, _, rfl, hbw', fun h => h0 ((set_other (by decide)).symm.trans h), fun h => h1 ((set_other (by decide)).symm.trans h), fun h => h3 ((set_other (by decide)).symm.trans h), fun h => h6 ((set_other (by decide)).symm.trans h), fun h => h7 ((set_other (by decide)).symm.trans h), fun h => h8 ((set_other (by decide)).symm.trans h), fun h => h9 ((set_other (by decide)).symm.trans h), fun h => h10 ((set_other (by decide)).symm.trans h), fun _ => rfl, fun h h6 => kA ((set_other (by decide)).symm.trans h) ((set_other (by decide)).symm.trans h6), fun h h6 => kO ((set_other (by decide)).symm.trans h) ((set_other (by decide)).symm.trans h6), fun h h6 => kB ((set_other (by decide)).symm.trans h) ((set_other (by decide)).symm.trans h6)⟩
          case hd =>
            rintro L ac w' ⟨hL, u58, u59, u60, u61, u62, u63, u64, u57, u65, u66, u12, u13, rfl, hbw', h0, h1, h3, h6, h7, h8, h9, h10, h11, kA, kO, kB⟩ hr
            have hall := all_listed hL (by kernel_rfl) hr
            obtain rfl := h0 (hall 0 (by decide))
            obtain rfl := h1 (hall 1 (by decide))
            obtain rfl := h3 (hall 3 (by decide))
            obtain rfl := h6 (hall 6 (by decide))
            obtain rfl := h7 (hall 7 (by decide))
            obtain rfl := h8 (hall 8 (by decide))
            obtain rfl := h9 (hall 9 (by decide))
            obtain rfl := h10 (hall 10 (by decide))
            obtain rfl := h11 (hall 11 (by decide))
            clear hall hr hL kA kO kB
            try dsimp only
          -- REGION7 END
            have hp7 := por_call hbw' hp6
            have hB7 := hB6.trans (hbw'.mono hB6.size)
            obtain ⟨w7, hw7⟩ : ∃ w7, w7 = w' := ⟨_, rfl⟩
            rw [← hw7] at hp7 hB7 ⊢
            clear hw7 hbw' hp6 hB6 fy ht6 hc7 hpr
            obtain ⟨k, rfl⟩ := Int.eq_ofNat_of_zero_le (show 0 ≤ n by omega)
            have HZ := Lib.hid (show hgE k 64 ps = 0 by rw [hgE, fstTwo, if_pos HE.out]; rfl)
            have HL := Lib.hid (show hgL k 64 ps = (hngL k ps).take 64 by rw [hgL, if_pos HZ.out]; rfl)
            have HQ := Lib.hid (show N0 = ((hngL k ps).length : Nat) by rw [HN0.out, hngN, if_pos HE.out]; rfl)
            have HS := Lib.hid (show N1 + N2 = N0 by
              rw [HN1.out, HN2.out, HQ.out, hngN, hngN, if_pos HS6.out, if_pos HS7.out, HY.out, ← hng_both k ps x]
              push_cast
              rfl)
            have hmost := hng_most (n := k) (ps := ps) (by omega)
            have HNN := Lib.hid (show 0 ≤ N1 ∧ 0 ≤ N2 by rw [HN1.out, HN2.out]; omega)
            obtain ⟨q0, hq0⟩ : ∃ q0, q0 = (hngL k ps).length := ⟨_, rfl⟩
            have hq1 := HQ.out
            have hs1 := HS.out
            have hnn := HNN.out
            rw [← hq0] at hq1
            obtain ⟨q1, rfl⟩ := Int.eq_ofNat_of_zero_le hnn.1
            obtain ⟨q2, rfl⟩ := Int.eq_ofNat_of_zero_le hnn.2
            subst hq1
            have hs2 : q1 + q2 = q0 := by omega
            clear HS6 HS7 HN0 HN1 HN2 HY HPX HNN HS HZ HL HQ hs1 hnn HOK hmost
            go_upto_region 8 with fail
            exact hung_tail (by kernel_rfl) (by kernel_rfl) rfl (by assumption) HE (by omega) (by omega) hl hq0 hs2 hp7 hB7
      · have g3 : decide ((20 : Int) ≤ (ps.length : Int)) = true := decide_eq_true (by omega)
        have g4 : decide (20 ≤ ps.length) = true := decide_eq_true (by omega)
        go_wp2_with fail
        refine (works_any w3).mono ?_
        rintro e w4 ⟨rfl, hb4⟩
        go_wp2
        go_ret
        exact ⟨rfl, hB3.trans (hb4.mono hB3.size)⟩
    · have g2 : (E != 0) = true := by simpa using h0
      clear h0 hE
      go_wp2_with fail
      refine (works_any w3).mono ?_
      rintro e w4 ⟨rfl, hb4⟩
      go_wp2
      go_ret
      exact ⟨rfl, hB3.trans (hb4.mono hB3.size)⟩
  · have g2 : (E != 0) = true := by simpa using h0
    clear h0 hE f0 f1 f2 f3 f4
    go_wp2_with fail
    refine (works_any w1).mono ?_
    rintro e w3 ⟨rfl, hb3⟩
    go_wp2
    go_ret
    exact ⟨rfl, hB1.trans (hb3.mono hB1.size)⟩
end Go.Proofs.Ytglkjiimmlobbaa
