/-
  CONTRACT: the law CodesExact.
-/
import Derived.Test.YthegmomjfbcabaaDoorExTail
namespace Go.Proofs.YthegmomjfbcabaaDoor
open Go.RowKit

set_option maxRecDepth 100000 in
set_option maxHeartbeats 4000000 in
theorem exact_law (W S : Int) (A : Option Addr) (c : Nat) (cs : List Cl) (cl : Cl) (Ag A2 : Option Addr) (cap k2 : Nat) (y : List Int) (w : World) (hT : Tab w) (hx : ClsR w w.heap.size A cs) (hl : cs.length ≤ maxLen) (hg : IntsR w w.heap.size Ag cl.guess) (lg : cl.guess.length ≤ maxLen) (hy : IntsR w w.heap.size A2 y) (ly : y.length ≤ maxLen) :
    Calls Tryd.prog 13 #[lockV W S, .slice A cs.length c, trialV cl Ag cap A2 y.length k2] w fun e w' => e = .returned (.bool true) ∧ Below w.heap.size w w' := by
  obtain ⟨k, a, b, n, m, g, ng⟩ := cl
  go_enter Tryd.func13, Tryd.ntmps13
  go_upto_region 1 with fail
  obtain ⟨w1, hw1⟩ : ∃ w1, w1 = (w.alloc (.cells #[I W, I S] 23)).alloc (.cells #[I k, I a, I b, I n, I m, .slice Ag g.length cap, .bool ng, .slice A2 y.length k2] 71) := ⟨_, rfl⟩
  rw [← hw1]
  have z0 : w1.heap[w.heap.size]? = some (.cells #[I W, I S] 23 (0, 0)) := by rw [hw1]; exact (Below.heap_alloc _ _ _ (by simp)).trans (alloc_obj _ _ _ rfl)
  have z1 : w1.heap[w.heap.size + 1]? = some (.cells #[I k, I a, I b, I n, I m, .slice Ag g.length cap, .bool ng, .slice A2 y.length k2] 71 (0, 0)) := by rw [hw1]; exact alloc_obj _ _ _ (by simp)
  have hb1 : Below w.heap.size w w1 := by rw [hw1]; exact two_boxes _ _ _
  have s1 : w.heap.size + 1 < w1.heap.size := by rw [hw1]; simp
  have hg1 := ints_call hb1 hg
  have hy1 := ints_call hb1 hy
  have hx1 := cls_call hb1 hx
  have hT1 := hT.below hb1
  have Z0 := Lib.hid z0
  have Z1 := Lib.hid z1
  clear hw1 hg hy hx hT z0 z1
  have l0 : w1.cell? ⟨w.heap.size, 0, none⟩ = some (I W) := cell_of_row w1 _ 0 _ _ _ Z0.out
  have l1 : w1.cell? ⟨w.heap.size, 1, none⟩ = some (I S) := cell_of_row w1 _ 1 _ _ _ Z0.out
  go_wp2_with fail
  refine (rCheckClues_any W S A c cs w1 hx1 hl).mono ?_
  rintro e w2 ⟨rfl, hb2⟩
  clear l0 l1
  have z0 := (hb2.block _ (by omega)).trans Z0.out
  have z1 := (hb2.block _ (by omega)).trans Z1.out
  have Z0 := Lib.hid z0
  have Z1 := Lib.hid z1
  clear z0 z1
  have l0 : w2.cell? ⟨w.heap.size, 0, none⟩ = some (I W) := cell_of_row w2 _ 0 _ _ _ Z0.out
  have l1 : w2.cell? ⟨w.heap.size, 1, none⟩ = some (I S) := cell_of_row w2 _ 1 _ _ _ Z0.out
  have q0 : w2.cell? ⟨w.heap.size + 1, 0, none⟩ = some (I k) := cell_of_row w2 _ 0 _ _ _ Z1.out
  have q1 : w2.cell? ⟨w.heap.size + 1, 1, none⟩ = some (I a) := cell_of_row w2 _ 1 _ _ _ Z1.out
  have q2 : w2.cell? ⟨w.heap.size + 1, 2, none⟩ = some (I b) := cell_of_row w2 _ 2 _ _ _ Z1.out
  have q3 : w2.cell? ⟨w.heap.size + 1, 3, none⟩ = some (I n) := cell_of_row w2 _ 3 _ _ _ Z1.out
  have q4 : w2.cell? ⟨w.heap.size + 1, 4, none⟩ = some (I m) := cell_of_row w2 _ 4 _ _ _ Z1.out
  have q5 : w2.cell? ⟨w.heap.size + 1, 5, none⟩ = some (.slice Ag g.length cap) := cell_of_row w2 _ 5 _ _ _ Z1.out
  have q6 : w2.cell? ⟨w.heap.size + 1, 6, none⟩ = some (.bool ng) := cell_of_row w2 _ 6 _ _ _ Z1.out
  have hg2 := ints_call hb2 hg1
  have hy2 := ints_call hb2 hy1
  have hx2 := cls_call hb2 hx1
  have hT2 := hT1.below hb2
  have hbb2 : Below w.heap.size w w2 := hb1.trans (hb2.mono (by omega))
  have s2 : w.heap.size + 1 < w2.heap.size := by have := hb2.size; omega
  clear hb1 hb2 hg1 hy1 hx1 hT1 s1
  by_cases he : cntE W S cs = 0
  · have hb0 : (cntE W S cs != 0) = false := by simp [he]
    have HE := Lib.hid he
    clear he
    go_wp2_with fail
    refine (rCheckClue_any W S ⟨k, a, b, n, m, g, ng⟩ Ag cap w2 hg2 lg).mono ?_
    rintro e w3 ⟨rfl, hb3⟩
    clear l0 l1 q0 q1 q2 q3 q4 q5 q6
    have z0 := (hb3.block _ (by omega)).trans Z0.out
    have z1 := (hb3.block _ (by omega)).trans Z1.out
    have Z0 := Lib.hid z0
    have Z1 := Lib.hid z1
    clear z0 z1
    have hg3 := ints_call hb3 hg2
    have hy3 := ints_call hb3 hy2
    have hx3 := cls_call hb3 hx2
    have hT3 := hT2.below hb3
    have hbb3 : Below w.heap.size w w3 := hbb2.trans (hb3.mono (by omega))
    have s3 : w.heap.size + 1 < w3.heap.size := by have := hb3.size; omega
    clear hb3 hg2 hy2 hx2 hT2 s2 hbb2
    by_cases hr : rClueErr W S ⟨k, a, b, n, m, g, ng⟩ = 0
    · have hr0 : (rClueErr W S ⟨k, a, b, n, m, g, ng⟩ != 0) = false := by simp [hr]
      have HR := Lib.hid hr
      clear hr
      by_cases h20 : (20 : Int) ≤ cs.length
      · go_wp2_with fail
        refine (works_any w3 hT3).mono ?_
        rintro e w4 ⟨rfl, hb4⟩
        go_wp2
        go_ret
        exact ⟨rfl, hbb3.trans (hb4.mono (by omega))⟩
      · have q0 : w3.cell? ⟨w.heap.size + 1, 0, none⟩ = some (I k) := cell_of_row w3 _ 0 _ _ _ Z1.out
        have q1 : w3.cell? ⟨w.heap.size + 1, 1, none⟩ = some (I a) := cell_of_row w3 _ 1 _ _ _ Z1.out
        have q2 : w3.cell? ⟨w.heap.size + 1, 2, none⟩ = some (I b) := cell_of_row w3 _ 2 _ _ _ Z1.out
        have q3 : w3.cell? ⟨w.heap.size + 1, 3, none⟩ = some (I n) := cell_of_row w3 _ 3 _ _ _ Z1.out
        have q4 : w3.cell? ⟨w.heap.size + 1, 4, none⟩ = some (I m) := cell_of_row w3 _ 4 _ _ _ Z1.out
        have q5 : w3.cell? ⟨w.heap.size + 1, 5, none⟩ = some (.slice Ag g.length cap) := cell_of_row w3 _ 5 _ _ _ Z1.out
        have q6 : w3.cell? ⟨w.heap.size + 1, 6, none⟩ = some (.bool ng) := cell_of_row w3 _ 6 _ _ _ Z1.out
        have l0 : w3.cell? ⟨w.heap.size, 0, none⟩ = some (I W) := cell_of_row w3 _ 0 _ _ _ Z0.out
        have l1 : w3.cell? ⟨w.heap.size, 1, none⟩ = some (I S) := cell_of_row w3 _ 1 _ _ _ Z0.out
        go_upto_region 5 with fail
        obtain ⟨w4, hw4⟩ : ∃ w4, w4 = w3.alloc (.cells #[I k, I a, I b, I n, I m, .slice Ag g.length cap, .bool (!ng)] 26) := ⟨_, rfl⟩
        rw [← hw4]
        have hb4 : Below w3.heap.size w3 w4 := by rw [hw4]; exact (Below.refl _ _).alloc (Nat.le_refl _) _
        have z2 : w4.heap[w3.heap.size]? = some (.cells #[I k, I a, I b, I n, I m, .slice Ag g.length cap, .bool (!ng)] 26 (0, 0)) := by rw [hw4]; exact alloc_obj _ _ _ rfl
        have s4 : w3.heap.size < w4.heap.size := by rw [hw4]; simp
        have hx4 := cls_call hb4 hx3
        have hg4 := ints_call hb4 hg3
        have hy4 := ints_call hb4 hy3
        have hT4 := hT3.below hb4
        have hbb4 : Below w.heap.size w w4 := hbb3.trans (hb4.mono (by omega))
        have Z0 := Lib.hid ((hb4.block _ (by omega)).trans Z0.out)
        have Z1 := Lib.hid ((hb4.block _ (by omega)).trans Z1.out)
        have Z2 := Lib.hid z2
        clear hw4 q0 q1 q2 q3 q4 q5 q6 l0 l1 hb4 z2 hx3 hg3 hy3 hT3 hbb3
        have l0 : w4.cell? ⟨w.heap.size, 0, none⟩ = some (I W) := cell_of_row w4 _ 0 _ _ _ Z0.out
        have l1 : w4.cell? ⟨w.heap.size, 1, none⟩ = some (I S) := cell_of_row w4 _ 1 _ _ _ Z0.out
        go_wp2_with fail
        refine (Count_any W S A c cs w4 hT4 hx4 hl).mono ?_
        rintro e w5 ⟨rfl, hb5⟩
        have hx5 := cls_call hb5 hx4
        have hg5 := ints_call hb5 hg4
        have hy5 := ints_call hb5 hy4
        have hT5 := hT4.below hb5
        have hbb5 : Below w.heap.size w w5 := hbb4.trans (hb5.mono (by omega))
        have Z0 := Lib.hid ((hb5.block _ (by omega)).trans Z0.out)
        have Z1 := Lib.hid ((hb5.block _ (by omega)).trans Z1.out)
        have Z2 := Lib.hid ((hb5.block _ (by omega)).trans Z2.out)
        have s5 : w3.heap.size < w5.heap.size := by have := hb5.size; omega
        clear l0 l1 hb5 hx4 hg4 hy4 hT4 hbb4
        have l0 : w5.cell? ⟨w.heap.size, 0, none⟩ = some (I W) := cell_of_row w5 _ 0 _ _ _ Z0.out
        have l1 : w5.cell? ⟨w.heap.size, 1, none⟩ = some (I S) := cell_of_row w5 _ 1 _ _ _ Z0.out
        have q0 : w5.cell? ⟨w.heap.size + 1, 0, none⟩ = some (I k) := cell_of_row w5 _ 0 _ _ _ Z1.out
        have q1 : w5.cell? ⟨w.heap.size + 1, 1, none⟩ = some (I a) := cell_of_row w5 _ 1 _ _ _ Z1.out
        have q2 : w5.cell? ⟨w.heap.size + 1, 2, none⟩ = some (I b) := cell_of_row w5 _ 2 _ _ _ Z1.out
        have q3 : w5.cell? ⟨w.heap.size + 1, 3, none⟩ = some (I n) := cell_of_row w5 _ 3 _ _ _ Z1.out
        have q4 : w5.cell? ⟨w.heap.size + 1, 4, none⟩ = some (I m) := cell_of_row w5 _ 4 _ _ _ Z1.out
        have q5 : w5.cell? ⟨w.heap.size + 1, 5, none⟩ = some (.slice Ag g.length cap) := cell_of_row w5 _ 5 _ _ _ Z1.out
        have q6 : w5.cell? ⟨w.heap.size + 1, 6, none⟩ = some (.bool ng) := cell_of_row w5 _ 6 _ _ _ Z1.out
        have b0 : w.heap.size < w5.heap.size := by omega
        have b1 : w.heap.size + 1 < w5.heap.size := by omega
        go_upto_region 6 with fail
        have hl20 : cs.length < 20 := by omega
        obtain ⟨ts, hts, hti, htc⟩ := cls_triples hx5
        have HN := Lib.hid (p := cs.length = ts.length) (by rw [← hts, List.length_map])
        have HTS := Lib.hid hts
        clear hts
        go_cut [10, 11] (fun s10 s11 wx => s10 = I (cntN W S (cs ++ [⟨k, a, b, n, m, g, ng⟩])) ∧ s11 = I (cntE W S (cs ++ [⟨k, a, b, n, m, g, ng⟩])) ∧ Below w5.heap.size w5 wx)
        case first =>
          refine wp_region_inv (by kernel_rfl) (fun L ac w' => L.size = 13 ∧ ∃ u54 u55 u56 u57 u58 u59 u60 u61 u53 u62 u63 u10 u11 : Value, ac = { tmps := #[lockV W S, Value.slice A cs.length c, trialV ⟨k, a, b, n, m, g, ng⟩ Ag cap A2 y.length k2, Value.pointer (some ⟨w.heap.size, 0, none⟩), undef, Value.pointer (some ⟨w.heap.size + 1, 0, none⟩), Value.bool false, Value.pointer (some ⟨w3.heap.size, 0, none⟩), I (cntN W S cs), I (cntE W S cs), u10, u11, undef, undef, undef, undef, undef, undef, undef, undef, undef, undef, undef, undef, Value.agg #[I W, I S], Value.slice A cs.length c, Value.int IntKind.i64 (cntE W S cs), Value.bool false, Value.bool false, Value.agg #[I W, I S], Value.pointer (some ⟨w.heap.size + 1, 0, none⟩), Value.agg #[I k, I a, I b, I n, I m, Value.slice Ag g.length cap, Value.bool ng], Value.int IntKind.i64 (rClueErr W S ⟨k, a, b, n, m, g, ng⟩), Value.bool false, Value.bool false, Value.bool false, Value.slice A cs.length c, Value.int IntKind.i64 (cs.length : Int), Value.bool (decide (20 ≤ (cs.length : Int))), Value.bool (decide (20 ≤ (cs.length : Int))), undef, Value.pointer (some ⟨w.heap.size + 1, 0, none⟩), Value.agg #[I k, I a, I b, I n, I m, Value.slice Ag g.length cap, Value.bool ng], Value.pointer (some ⟨w3.heap.size, 6, none⟩), Value.bool ng, Value.bool !ng, Value.pointer (some ⟨w3.heap.size, 6, none⟩), Value.tuple #[I (cntN W S cs), I (cntE W S cs)], Value.agg #[I W, I S], Value.slice A cs.length c, Value.tuple #[I (cntN W S cs), I (cntE W S cs)], I (cntN W S cs), I (cntE W S cs), u53, u54, u55, u56, u57, u58, u59, u60, u61, u62, u63, undef, undef, undef, undef, undef, undef, undef, undef, undef, undef, undef, undef, undef, undef, undef, undef, undef, undef, undef, undef, undef, undef, undef, undef, undef, undef, undef, undef, undef, undef, undef, undef, undef, undef, undef, undef, undef, undef, undef, undef, undef, undef, undef, undef, undef, undef, undef, undef, undef, undef, undef, undef, undef, undef, undef, undef, undef, undef, undef, undef, undef, undef, undef, undef, undef, undef, undef, undef, undef, undef, undef, undef, undef, undef, undef, undef, undef, undef, undef, undef, undef, undef, undef, undef, undef, undef, undef, undef, undef, undef, undef, undef, undef, undef, undef, undef, undef, undef, undef, undef, undef, undef, undef, undef, undef, undef, undef, undef, undef, undef, undef, undef, undef, undef, undef, undef, undef, undef, undef, undef, undef, undef, undef, undef, undef, undef, undef, undef, undef, undef, undef, undef, undef, undef, undef, undef, undef, undef, undef, undef, undef, undef, undef, undef, undef, undef, undef, undef, undef, undef, undef, undef, undef, undef], defers := [] } ∧ Below w5.heap.size w5 w' ∧ (L.getD 0 false = true → u54 = lockV W S) ∧ (L.getD 1 false = true → u55 = Value.slice A cs.length c) ∧ (L.getD 3 false = true → u57 = Value.pointer (some ⟨w.heap.size + 1, 0, none⟩)) ∧ (L.getD 4 false = true → u58 = Value.agg #[I k, I a, I b, I n, I m, Value.slice Ag g.length cap, Value.bool ng]) ∧ (L.getD 7 false = true → u61 = Value.tuple #[I (cntN W S (cs ++ [⟨k, a, b, n, m, g, ng⟩])), I (cntE W S (cs ++ [⟨k, a, b, n, m, g, ng⟩]))]) ∧ (L.getD 8 false = true → u53 = Value.tuple #[I (cntN W S (cs ++ [⟨k, a, b, n, m, g, ng⟩])), I (cntE W S (cs ++ [⟨k, a, b, n, m, g, ng⟩]))]) ∧ (L.getD 9 false = true → u62 = I (cntN W S (cs ++ [⟨k, a, b, n, m, g, ng⟩]))) ∧ (L.getD 10 false = true → u63 = I (cntE W S (cs ++ [⟨k, a, b, n, m, g, ng⟩]))) ∧ (L.getD 11 false = true → u10 = I (cntN W S (cs ++ [⟨k, a, b, n, m, g, ng⟩]))) ∧ (L.getD 12 false = true → u11 = I (cntE W S (cs ++ [⟨k, a, b, n, m, g, ng⟩]))) ∧ (L.getD 2 false = true → L.getD 6 false = false → OwnC w' w5.heap.size cs.length u56 ts) ∧ (L.getD 5 false = true → L.getD 6 false = false → OneC w' w5.heap.size u59 ((⟨k, a, b, n, m, g, ng⟩, Ag, cap) : ClT)) ∧ (L.getD 6 false = true → L.getD 7 false = false → OwnC w' w5.heap.size (cs.length + 1) u60 (ts ++ [((⟨k, a, b, n, m, g, ng⟩, Ag, cap) : ClT)]))) ?_ ?_ ?_
          · exact ⟨by simp, _, _, _, _, _, _, _, _, _, _, _, _, _, rfl, (Below.refl _ _).drew, by simp, by simp, by simp, by simp, by simp, by simp, by simp, by simp, by simp, by simp, by simp, by simp, by simp⟩
          · rintro i L ac w' ⟨hL, u54, u55, u56, u57, u58, u59, u60, u61, u53, u62, u63, u10, u11, rfl, hbw', h0, h1, h3, h4, h7, h8, h9, h10, h11, h12, kA, kO, kB⟩ hi
            have hcases : i = 0 ∨ i = 1 ∨ i = 2 ∨ i = 3 ∨ i = 4 ∨ i = 5 ∨ i = 6 ∨ i = 7 ∨ i = 8 ∨ i = 9 ∨ i = 10 ∨ i = 11 ∨ i = 12 := by
              have : i < 13 := ready_lt hi
              omega
            have hsz := hbw'.size
            rcases hcases with rfl | rfl | rfl | rfl | rfl | rfl | rfl | rfl | rfl | rfl | rfl | rfl | rfl
            · have e0 := (Below.cell hbw' (p := ⟨w.heap.size, 0, none⟩) (by simp only; omega)).trans l0
              have e1 := (Below.cell hbw' (p := ⟨w.heap.size, 1, none⟩) (by simp only; omega)).trans l1
              refine wpOp_val (lockV W S) rfl (by rfl) (by go_simp) ?_
              exact ⟨by simpa using hL, _, _, _, _, _, _, _, _, _, _, _, _, _, rfl, hbw', fun _ => rfl, fun h => h1 ((set_other (by decide)).symm.trans h), fun h => h3 ((set_other (by decide)).symm.trans h), fun h => h4 ((set_other (by decide)).symm.trans h), fun h => h7 ((set_other (by decide)).symm.trans h), fun h => h8 ((set_other (by decide)).symm.trans h), fun h => h9 ((set_other (by decide)).symm.trans h), fun h => h10 ((set_other (by decide)).symm.trans h), fun h => h11 ((set_other (by decide)).symm.trans h), fun h => h12 ((set_other (by decide)).symm.trans h), fun h h6 => kA ((set_other (by decide)).symm.trans h) ((set_other (by decide)).symm.trans h6), fun h h6 => kO ((set_other (by decide)).symm.trans h) ((set_other (by decide)).symm.trans h6), fun h h6 => kB ((set_other (by decide)).symm.trans h) ((set_other (by decide)).symm.trans h6)⟩
            · refine wpOp_val (Value.slice A cs.length c) rfl (by rfl) (by go_simp) ?_
              exact ⟨by simpa using hL, _, _, _, _, _, _, _, _, _, _, _, _, _, rfl, hbw', fun h => h0 ((set_other (by decide)).symm.trans h), fun _ => rfl, fun h => h3 ((set_other (by decide)).symm.trans h), fun h => h4 ((set_other (by decide)).symm.trans h), fun h => h7 ((set_other (by decide)).symm.trans h), fun h => h8 ((set_other (by decide)).symm.trans h), fun h => h9 ((set_other (by decide)).symm.trans h), fun h => h10 ((set_other (by decide)).symm.trans h), fun h => h11 ((set_other (by decide)).symm.trans h), fun h => h12 ((set_other (by decide)).symm.trans h), fun h h6 => kA ((set_other (by decide)).symm.trans h) ((set_other (by decide)).symm.trans h6), fun h h6 => kO ((set_other (by decide)).symm.trans h) ((set_other (by decide)).symm.trans h6), fun h h6 => kB ((set_other (by decide)).symm.trans h) ((set_other (by decide)).symm.trans h6)⟩
            · obtain rfl := h1 (ready_dep hi 1 (by kernel_rfl))
              refine wpOp_wp rfl (by rfl) (wp_append_cls _ _ rfl rfl A c ts cs.length HN.out rfl (fun h0 => ?_) hl20 w5.heap.size hsz fun v' w'' g1 g2 => ?_)
              · obtain ⟨g0, o0, e0, hg0, hc0⟩ := htc h0
                exact ⟨g0, o0, e0, fun j u hu => by
                  have := hc0 j u hu
                  rw [plain_add] at this ⊢
                  exact (Below.cell hbw' (p := ⟨g0, o0 + j, none⟩) hg0).trans this⟩
              exact ⟨by simpa using hL, _, _, _, _, _, _, _, _, _, _, _, _, _, rfl, (below_nil hbw' g2 (Nat.le_refl _)), fun h => h0 ((set_other (by decide)).symm.trans h), fun h => h1 ((set_other (by decide)).symm.trans h), fun h => h3 ((set_other (by decide)).symm.trans h), fun h => h4 ((set_other (by decide)).symm.trans h), fun h => h7 ((set_other (by decide)).symm.trans h), fun h => h8 ((set_other (by decide)).symm.trans h), fun h => h9 ((set_other (by decide)).symm.trans h), fun h => h10 ((set_other (by decide)).symm.trans h), fun h => h11 ((set_other (by decide)).symm.trans h), fun h => h12 ((set_other (by decide)).symm.trans h), fun _ _ => g1, fun h h6 => OneC.grown (kO ((set_other (by decide)).symm.trans h) ((set_other (by decide)).symm.trans h6)) (g2), fun h h6 => own_grown (kB ((set_other (by decide)).symm.trans h) ((set_other (by decide)).symm.trans h6)) (g2)⟩
            · refine wpOp_val (Value.pointer (some ⟨w.heap.size + 1, 0, none⟩)) rfl (by rfl) (by go_simp) ?_
              exact ⟨by simpa using hL, _, _, _, _, _, _, _, _, _, _, _, _, _, rfl, hbw', fun h => h0 ((set_other (by decide)).symm.trans h), fun h => h1 ((set_other (by decide)).symm.trans h), fun _ => rfl, fun h => h4 ((set_other (by decide)).symm.trans h), fun h => h7 ((set_other (by decide)).symm.trans h), fun h => h8 ((set_other (by decide)).symm.trans h), fun h => h9 ((set_other (by decide)).symm.trans h), fun h => h10 ((set_other (by decide)).symm.trans h), fun h => h11 ((set_other (by decide)).symm.trans h), fun h => h12 ((set_other (by decide)).symm.trans h), fun h h6 => kA ((set_other (by decide)).symm.trans h) ((set_other (by decide)).symm.trans h6), fun h h6 => kO ((set_other (by decide)).symm.trans h) ((set_other (by decide)).symm.trans h6), fun h h6 => kB ((set_other (by decide)).symm.trans h) ((set_other (by decide)).symm.trans h6)⟩
            · have e0 := (Below.cell hbw' (p := ⟨w.heap.size + 1, 0, none⟩) (by simp only; omega)).trans q0
              have e1 := (Below.cell hbw' (p := ⟨w.heap.size + 1, 1, none⟩) (by simp only; omega)).trans q1
              have e2 := (Below.cell hbw' (p := ⟨w.heap.size + 1, 2, none⟩) (by simp only; omega)).trans q2
              have e3 := (Below.cell hbw' (p := ⟨w.heap.size + 1, 3, none⟩) (by simp only; omega)).trans q3
              have e4 := (Below.cell hbw' (p := ⟨w.heap.size + 1, 4, none⟩) (by simp only; omega)).trans q4
              have e5 := (Below.cell hbw' (p := ⟨w.heap.size + 1, 5, none⟩) (by simp only; omega)).trans q5
              have e6 := (Below.cell hbw' (p := ⟨w.heap.size + 1, 6, none⟩) (by simp only; omega)).trans q6
              obtain rfl := h3 (ready_dep hi 3 (by kernel_rfl))
              refine wpOp_val (Value.agg #[I k, I a, I b, I n, I m, Value.slice Ag g.length cap, Value.bool ng]) rfl (by rfl) (by go_simp) ?_
              exact ⟨by simpa using hL, _, _, _, _, _, _, _, _, _, _, _, _, _, rfl, hbw', fun h => h0 ((set_other (by decide)).symm.trans h), fun h => h1 ((set_other (by decide)).symm.trans h), fun h => h3 ((set_other (by decide)).symm.trans h), fun _ => rfl, fun h => h7 ((set_other (by decide)).symm.trans h), fun h => h8 ((set_other (by decide)).symm.trans h), fun h => h9 ((set_other (by decide)).symm.trans h), fun h => h10 ((set_other (by decide)).symm.trans h), fun h => h11 ((set_other (by decide)).symm.trans h), fun h => h12 ((set_other (by decide)).symm.trans h), fun h h6 => kA ((set_other (by decide)).symm.trans h) ((set_other (by decide)).symm.trans h6), fun h h6 => kO ((set_other (by decide)).symm.trans h) ((set_other (by decide)).symm.trans h6), fun h h6 => kB ((set_other (by decide)).symm.trans h) ((set_other (by decide)).symm.trans h6)⟩
            · obtain rfl := h4 (ready_dep hi 4 (by kernel_rfl))
              refine wpOp_wp rfl (by rfl) (opwp_res (r := .ok (.value (.slice (some ⟨w'.heap.size, 0, none⟩) 1 1)) (w'.alloc (.cells (clArr ((⟨k, a, b, n, m, g, ng⟩, Ag, cap) : ClT).1 ((⟨k, a, b, n, m, g, ng⟩, Ag, cap) : ClT).2.1 ((⟨k, a, b, n, m, g, ng⟩, Ag, cap) : ClT).2.2) 26))) (by go_simp; rfl) ?_)
              exact ⟨by simpa using hL, _, _, _, _, _, _, _, _, _, _, _, _, _, rfl, (hbw'.alloc hsz _), fun h => h0 ((set_other (by decide)).symm.trans h), fun h => h1 ((set_other (by decide)).symm.trans h), fun h => h3 ((set_other (by decide)).symm.trans h), fun h => h4 ((set_other (by decide)).symm.trans h), fun h => h7 ((set_other (by decide)).symm.trans h), fun h => h8 ((set_other (by decide)).symm.trans h), fun h => h9 ((set_other (by decide)).symm.trans h), fun h => h10 ((set_other (by decide)).symm.trans h), fun h => h11 ((set_other (by decide)).symm.trans h), fun h => h12 ((set_other (by decide)).symm.trans h), fun h h6 => own_grown (kA ((set_other (by decide)).symm.trans h) ((set_other (by decide)).symm.trans h6)) (World.grownBy_alloc _ _ _), fun _ _ => OneC.alloc ((⟨k, a, b, n, m, g, ng⟩, Ag, cap) : ClT) hsz, fun h h6 => own_grown (kB ((set_other (by decide)).symm.trans h) ((set_other (by decide)).symm.trans h6)) (World.grownBy_alloc _ _ _)⟩
            · have hn6 := ready_not' hi (by omega)
              have hA := kA (ready_dep hi 2 (by kernel_rfl)) hn6
              obtain ⟨bo, rfl, hbo, hblk⟩ := kO (ready_dep hi 5 (by kernel_rfl)) hn6
              refine wpOp_wp rfl (by rfl) (wp_append_clue _ _ rfl u56 rfl ts cs.length w5.heap.size hsz hA hl20 bo ((⟨k, a, b, n, m, g, ng⟩, Ag, cap) : ClT) rfl hblk fun v' w'' g1 g2 => ?_)
              exact ⟨by simpa using hL, _, _, _, _, _, _, _, _, _, _, _, _, _, rfl, (below_own hbw' hA g2 (Nat.le_refl _)), fun h => h0 ((set_other (by decide)).symm.trans h), fun h => h1 ((set_other (by decide)).symm.trans h), fun h => h3 ((set_other (by decide)).symm.trans h), fun h => h4 ((set_other (by decide)).symm.trans h), fun h => h7 ((set_other (by decide)).symm.trans h), fun h => h8 ((set_other (by decide)).symm.trans h), fun h => h9 ((set_other (by decide)).symm.trans h), fun h => h10 ((set_other (by decide)).symm.trans h), fun h => h11 ((set_other (by decide)).symm.trans h), fun h => h12 ((set_other (by decide)).symm.trans h), fun _ h6 => (not_bumped (by omega) h6).elim, fun _ h6 => (not_bumped (by omega) h6).elim, fun _ _ => g1⟩
            · obtain rfl := h0 (ready_dep hi 0 (by kernel_rfl))
              have hn7 := ready_not' hi (by omega)
              obtain ⟨A', c', e60, hcl⟩ := own_cls_snoc (kB (ready_dep hi 6 (by kernel_rfl)) hn7) HN.out (fun t ht => ⟨ints_call hbw' (hti t ht).1, (hti t ht).2⟩) ⟨ints_call hbw' hg5, lg⟩
              rw [HTS.out] at e60 hcl
              subst e60
              refine wpOp_wp rfl (by rfl) (wp_call_fns (vs := #[lockV W S, .slice A' (cs ++ [((⟨k, a, b, n, m, g, ng⟩, Ag, cap) : ClT).1]).length c']) rfl (by simp [Act.eval]) (enters_of Tryd.func32 (by kernel_rfl) rfl) ((Count_any W S A' c' _ w' (hT5.below hbw') hcl (by simp; unfold maxLen; omega)).mono ?_))
              rintro e wv ⟨rfl, hb⟩
              exact ⟨by simpa using hL, _, _, _, _, _, _, _, _, _, _, _, _, _, rfl, (hbw'.trans (hb.mono hsz)), fun h => h0 ((set_other (by decide)).symm.trans h), fun h => h1 ((set_other (by decide)).symm.trans h), fun h => h3 ((set_other (by decide)).symm.trans h), fun h => h4 ((set_other (by decide)).symm.trans h), fun _ => rfl, fun h => h8 ((set_other (by decide)).symm.trans h), fun h => h9 ((set_other (by decide)).symm.trans h), fun h => h10 ((set_other (by decide)).symm.trans h), fun h => h11 ((set_other (by decide)).symm.trans h), fun h => h12 ((set_other (by decide)).symm.trans h), fun h h6 => own_grown (kA ((set_other (by decide)).symm.trans h) ((set_other (by decide)).symm.trans h6)) (grown_of_below hb (Nat.le_refl _)), fun h h6 => OneC.grown (kO ((set_other (by decide)).symm.trans h) ((set_other (by decide)).symm.trans h6)) (grown_of_below hb (Nat.le_refl _)), fun _ h6 => (not_bumped (by omega) h6).elim⟩
            · obtain rfl := h7 (ready_dep hi 7 (by kernel_rfl))
              refine wpOp_val (Value.tuple #[I (cntN W S (cs ++ [⟨k, a, b, n, m, g, ng⟩])), I (cntE W S (cs ++ [⟨k, a, b, n, m, g, ng⟩]))]) rfl (by rfl) (by go_simp) ?_
              exact ⟨by simpa using hL, _, _, _, _, _, _, _, _, _, _, _, _, _, rfl, hbw', fun h => h0 ((set_other (by decide)).symm.trans h), fun h => h1 ((set_other (by decide)).symm.trans h), fun h => h3 ((set_other (by decide)).symm.trans h), fun h => h4 ((set_other (by decide)).symm.trans h), fun h => h7 ((set_other (by decide)).symm.trans h), fun _ => rfl, fun h => h9 ((set_other (by decide)).symm.trans h), fun h => h10 ((set_other (by decide)).symm.trans h), fun h => h11 ((set_other (by decide)).symm.trans h), fun h => h12 ((set_other (by decide)).symm.trans h), fun h h6 => kA ((set_other (by decide)).symm.trans h) ((set_other (by decide)).symm.trans h6), fun h h6 => kO ((set_other (by decide)).symm.trans h) ((set_other (by decide)).symm.trans h6), fun h h6 => kB ((set_other (by decide)).symm.trans h) ((set_other (by decide)).symm.trans h6)⟩
            · obtain rfl := h8 (ready_dep hi 8 (by kernel_rfl))
              refine wpOp_val (I (cntN W S (cs ++ [⟨k, a, b, n, m, g, ng⟩]))) rfl (by rfl) (by go_simp) ?_
              exact ⟨by simpa using hL, _, _, _, _, _, _, _, _, _, _, _, _, _, rfl, hbw', fun h => h0 ((set_other (by decide)).symm.trans h), fun h => h1 ((set_other (by decide)).symm.trans h), fun h => h3 ((set_other (by decide)).symm.trans h), fun h => h4 ((set_other (by decide)).symm.trans h), fun h => h7 ((set_other (by decide)).symm.trans h), fun h => h8 ((set_other (by decide)).symm.trans h), fun _ => rfl, fun h => h10 ((set_other (by decide)).symm.trans h), fun h => h11 ((set_other (by decide)).symm.trans h), fun h => h12 ((set_other (by decide)).symm.trans h), fun h h6 => kA ((set_other (by decide)).symm.trans h) ((set_other (by decide)).symm.trans h6), fun h h6 => kO ((set_other (by decide)).symm.trans h) ((set_other (by decide)).symm.trans h6), fun h h6 => kB ((set_other (by decide)).symm.trans h) ((set_other (by decide)).symm.trans h6)⟩
            · obtain rfl := h8 (ready_dep hi 8 (by kernel_rfl))
              refine wpOp_val (I (cntE W S (cs ++ [⟨k, a, b, n, m, g, ng⟩]))) rfl (by rfl) (by go_simp) ?_
              exact ⟨by simpa using hL, _, _, _, _, _, _, _, _, _, _, _, _, _, rfl, hbw', fun h => h0 ((set_other (by decide)).symm.trans h), fun h => h1 ((set_other (by decide)).symm.trans h), fun h => h3 ((set_other (by decide)).symm.trans h), fun h => h4 ((set_other (by decide)).symm.trans h), fun h => h7 ((set_other (by decide)).symm.trans h), fun h => h8 ((set_other (by decide)).symm.trans h), fun h => h9 ((set_other (by decide)).symm.trans h), fun _ => rfl, fun h => h11 ((set_other (by decide)).symm.trans h), fun h => h12 ((set_other (by decide)).symm.trans h), fun h h6 => kA ((set_other (by decide)).symm.trans h) ((set_other (by decide)).symm.trans h6), fun h h6 => kO ((set_other (by decide)).symm.trans h) ((set_other (by decide)).symm.trans h6), fun h h6 => kB ((set_other (by decide)).symm.trans h) ((set_other (by decide)).symm.trans h6)⟩
            · obtain rfl := h9 (ready_dep hi 9 (by kernel_rfl))
              refine wpOp_val (I (cntN W S (cs ++ [⟨k, a, b, n, m, g, ng⟩]))) rfl (by rfl) (by go_simp) ?_
              exact ⟨by simpa using hL, _, _, _, _, _, _, _, _, _, _, _, _, _, rfl, hbw', fun h => h0 ((set_other (by decide)).symm.trans h), fun h => h1 ((set_other (by decide)).symm.trans h), fun h => h3 ((set_other (by decide)).symm.trans h), fun h => h4 ((set_other (by decide)).symm.trans h), fun h => h7 ((set_other (by decide)).symm.trans h), fun h => h8 ((set_other (by decide)).symm.trans h), fun h => h9 ((set_other (by decide)).symm.trans h), fun h => h10 ((set_other (by decide)).symm.trans h), fun _ => rfl, fun h => h12 ((set_other (by decide)).symm.trans h), fun h h6 => kA ((set_other (by decide)).symm.trans h) ((set_other (by decide)).symm.trans h6), fun h h6 => kO ((set_other (by decide)).symm.trans h) ((set_other (by decide)).symm.trans h6), fun h h6 => kB ((set_other (by decide)).symm.trans h) ((set_other (by decide)).symm.trans h6)⟩
            · obtain rfl := h10 (ready_dep hi 10 (by kernel_rfl))
              refine wpOp_val (I (cntE W S (cs ++ [⟨k, a, b, n, m, g, ng⟩]))) rfl (by rfl) (by go_simp) ?_
              exact ⟨by simpa using hL, _, _, _, _, _, _, _, _, _, _, _, _, _, rfl, hbw', fun h => h0 ((set_other (by decide)).symm.trans h), fun h => h1 ((set_other (by decide)).symm.trans h), fun h => h3 ((set_other (by decide)).symm.trans h), fun h => h4 ((set_other (by decide)).symm.trans h), fun h => h7 ((set_other (by decide)).symm.trans h), fun h => h8 ((set_other (by decide)).symm.trans h), fun h => h9 ((set_other (by decide)).symm.trans h), fun h => h10 ((set_other (by decide)).symm.trans h), fun h => h11 ((set_other (by decide)).symm.trans h), fun _ => rfl, fun h h6 => kA ((set_other (by decide)).symm.trans h) ((set_other (by decide)).symm.trans h6), fun h h6 => kO ((set_other (by decide)).symm.trans h) ((set_other (by decide)).symm.trans h6), fun h h6 => kB ((set_other (by decide)).symm.trans h) ((set_other (by decide)).symm.trans h6)⟩
          · rintro L ac w' ⟨hL, u54, u55, u56, u57, u58, u59, u60, u61, u53, u62, u63, u10, u11, rfl, hbw', h0, h1, h3, h4, h7, h8, h9, h10, h11, h12, kA, kO, kB⟩ hr
            have hall := all_listed hL (by kernel_rfl) hr
            obtain rfl := h0 (hall 0 (by decide))
            obtain rfl := h1 (hall 1 (by decide))
            obtain rfl := h3 (hall 3 (by decide))
            obtain rfl := h4 (hall 4 (by decide))
            obtain rfl := h7 (hall 7 (by decide))
            obtain rfl := h8 (hall 8 (by decide))
            obtain rfl := h9 (hall 9 (by decide))
            obtain rfl := h10 (hall 10 (by decide))
            obtain rfl := h11 (hall 11 (by decide))
            obtain rfl := h12 (hall 12 (by decide))
            clear hall hr hL kA kO kB
            try dsimp only
            go_wp2_with fail
            go_meet
            exact ⟨rfl, rfl, hbw'⟩
        case rest =>
          obtain ⟨rfl, rfl, hb6⟩ := hcut
          obtain ⟨w6, hw6⟩ : ∃ w6 : World, w6 = wc := ⟨_, rfl⟩
          subst hw6
          clear l0 l1 q0 q1 q2 q3 q4 q5 q6 hti htc HTS HN b0 b1
          clear ts
          have hx6 := cls_call hb6 hx5
          have hg6 := ints_call hb6 hg5
          have hy6 := ints_call hb6 hy5
          have hT6 := hT5.below hb6
          have hbb6 : Below w.heap.size w w6 := hbb5.trans (hb6.mono (by omega))
          have Z0 := Lib.hid ((hb6.block _ (by omega)).trans Z0.out)
          have Z1 := Lib.hid ((hb6.block _ (by omega)).trans Z1.out)
          have Z2 := Lib.hid ((hb6.block _ (by omega)).trans Z2.out)
          have s6 : w3.heap.size < w6.heap.size := by have := hb6.size; omega
          clear hb6 hx5 hg5 hy5 hT5 hbb5 s5 s4
          have l0 : w6.cell? ⟨w.heap.size, 0, none⟩ = some (I W) := cell_of_row w6 _ 0 _ _ _ Z0.out
          have l1 : w6.cell? ⟨w.heap.size, 1, none⟩ = some (I S) := cell_of_row w6 _ 1 _ _ _ Z0.out
          have q0 : w6.cell? ⟨w3.heap.size, 0, none⟩ = some (I k) := cell_of_row w6 _ 0 _ _ _ Z2.out
          have q1 : w6.cell? ⟨w3.heap.size, 1, none⟩ = some (I a) := cell_of_row w6 _ 1 _ _ _ Z2.out
          have q2 : w6.cell? ⟨w3.heap.size, 2, none⟩ = some (I b) := cell_of_row w6 _ 2 _ _ _ Z2.out
          have q3 : w6.cell? ⟨w3.heap.size, 3, none⟩ = some (I n) := cell_of_row w6 _ 3 _ _ _ Z2.out
          have q4 : w6.cell? ⟨w3.heap.size, 4, none⟩ = some (I m) := cell_of_row w6 _ 4 _ _ _ Z2.out
          have q5 : w6.cell? ⟨w3.heap.size, 5, none⟩ = some (.slice Ag g.length cap) := cell_of_row w6 _ 5 _ _ _ Z2.out
          have q6 : w6.cell? ⟨w3.heap.size, 6, none⟩ = some (.bool (!ng)) := cell_of_row w6 _ 6 _ _ _ Z2.out
          obtain ⟨ts, hts, hti, htc⟩ := cls_triples hx6
          have HN := Lib.hid (p := cs.length = ts.length) (by rw [← hts, List.length_map])
          have HTS := Lib.hid hts
          clear hts
          go_upto_region 7 with fail
          go_cut [12, 13] (fun s12 s13 wx => s12 = I (cntN W S (cs ++ [⟨k, a, b, n, m, g, !ng⟩])) ∧ s13 = I (cntE W S (cs ++ [⟨k, a, b, n, m, g, !ng⟩])) ∧ Below w6.heap.size w6 wx)
          case first =>
            refine wp_region_inv (by kernel_rfl) (fun L ac w' => L.size = 12 ∧ ∃ u65 u66 u67 u68 u69 u70 u71 u64 u72 u73 u12 u13 : Value, ac = { tmps := #[lockV W S, Value.slice A cs.length c, trialV ⟨k, a, b, n, m, g, ng⟩ Ag cap A2 y.length k2, Value.pointer (some ⟨w.heap.size, 0, none⟩), undef, Value.pointer (some ⟨w.heap.size + 1, 0, none⟩), Value.bool false, Value.pointer (some ⟨w3.heap.size, 0, none⟩), I (cntN W S cs), I (cntE W S cs), I (cntN W S (cs ++ [⟨k, a, b, n, m, g, ng⟩])), I (cntE W S (cs ++ [⟨k, a, b, n, m, g, ng⟩])), u12, u13, undef, undef, undef, undef, undef, undef, undef, undef, undef, undef, u24, u25, u26, u27, u28, u29, u30, u31, u32, u33, u34, u35, u36, u37, u38, u39, u40, u41, u42, u43, u44, u45, u46, u47, u48, u49, u50, u51, u52, u53, u54, u55, u56, u57, u58, u59, u60, u61, u62, u63, u64, u65, u66, u67, u68, u69, u70, u71, u72, u73, u74, u75, u76, u77, u78, u79, u80, u81, u82, u83, u84, u85, u86, u87, u88, u89, u90, u91, u92, u93, u94, u95, u96, u97, u98, u99, u100, u101, u102, u103, u104, u105, u106, u107, u108, u109, u110, u111, u112, u113, u114, u115, u116, u117, u118, u119, u120, u121, u122, u123, u124, u125, u126, u127, u128, u129, u130, u131, u132, u133, u134, u135, u136, u137, u138, u139, u140, u141, u142, u143, u144, u145, u146, u147, u148, u149, u150, u151, u152, u153, u154, u155, u156, u157, u158, u159, u160, u161, u162, u163, u164, u165, u166, u167, u168, u169, u170, u171, u172, u173, u174, u175, u176, u177, u178, u179, u180, u181, u182, u183, u184, u185, u186, u187, u188, u189, u190, u191, u192, u193, u194, u195, u196, u197, u198, u199, u200, u201, u202, u203, u204, u205, u206, u207, u208, u209, u210, u211, u212, u213, u214, u215, u216, u217], defers := [] } ∧ Below w6.heap.size w6 w' ∧ (L.getD 0 false = true → u65 = lockV W S) ∧ (L.getD 1 false = true → u66 = Value.slice A cs.length c) ∧ (L.getD 3 false = true → u68 = Value.agg #[I k, I a, I b, I n, I m, Value.slice Ag g.length cap, Value.bool (!ng)]) ∧ (L.getD 6 false = true → u71 = Value.tuple #[I (cntN W S (cs ++ [⟨k, a, b, n, m, g, !ng⟩])), I (cntE W S (cs ++ [⟨k, a, b, n, m, g, !ng⟩]))]) ∧ (L.getD 7 false = true → u64 = Value.tuple #[I (cntN W S (cs ++ [⟨k, a, b, n, m, g, !ng⟩])), I (cntE W S (cs ++ [⟨k, a, b, n, m, g, !ng⟩]))]) ∧ (L.getD 8 false = true → u72 = I (cntN W S (cs ++ [⟨k, a, b, n, m, g, !ng⟩]))) ∧ (L.getD 9 false = true → u73 = I (cntE W S (cs ++ [⟨k, a, b, n, m, g, !ng⟩]))) ∧ (L.getD 10 false = true → u12 = I (cntN W S (cs ++ [⟨k, a, b, n, m, g, !ng⟩]))) ∧ (L.getD 11 false = true → u13 = I (cntE W S (cs ++ [⟨k, a, b, n, m, g, !ng⟩]))) ∧ (L.getD 2 false = true → L.getD 5 false = false → OwnC w' w6.heap.size cs.length u67 ts) ∧ (L.getD 4 false = true → L.getD 5 false = false → OneC w' w6.heap.size u69 ((⟨k, a, b, n, m, g, !ng⟩, Ag, cap) : ClT)) ∧ (L.getD 5 false = true → L.getD 6 false = false → OwnC w' w6.heap.size (cs.length + 1) u70 (ts ++ [((⟨k, a, b, n, m, g, !ng⟩, Ag, cap) : ClT)]))) ?_ ?_ ?_
            · exact ⟨by simp, _, _, _, _, _, _, _, _, _, _, _, _, rfl, (Below.refl _ _).drew, by simp, by simp, by simp, by simp, by simp, by simp, by simp, by simp, by simp, by simp, by simp, by simp⟩
            · rintro i L ac w' ⟨hL, u65, u66, u67, u68, u69, u70, u71, u64, u72, u73, u12, u13, rfl, hbw', h0, h1, h3, h6, h7, h8, h9, h10, h11, kA, kO, kB⟩ hi
              have hcases : i = 0 ∨ i = 1 ∨ i = 2 ∨ i = 3 ∨ i = 4 ∨ i = 5 ∨ i = 6 ∨ i = 7 ∨ i = 8 ∨ i = 9 ∨ i = 10 ∨ i = 11 := by
                have : i < 12 := ready_lt hi
                omega
              have hsz := hbw'.size
              rcases hcases with rfl | rfl | rfl | rfl | rfl | rfl | rfl | rfl | rfl | rfl | rfl | rfl
              · have e0 := (Below.cell hbw' (p := ⟨w.heap.size, 0, none⟩) (by simp only; omega)).trans l0
                have e1 := (Below.cell hbw' (p := ⟨w.heap.size, 1, none⟩) (by simp only; omega)).trans l1
                refine wpOp_val (lockV W S) rfl (by rfl) (by go_simp) ?_
                exact ⟨by simpa using hL, _, _, _, _, _, _, _, _, _, _, _, _, rfl, hbw', fun _ => rfl, fun h => h1 ((set_other (by decide)).symm.trans h), fun h => h3 ((set_other (by decide)).symm.trans h), fun h => h6 ((set_other (by decide)).symm.trans h), fun h => h7 ((set_other (by decide)).symm.trans h), fun h => h8 ((set_other (by decide)).symm.trans h), fun h => h9 ((set_other (by decide)).symm.trans h), fun h => h10 ((set_other (by decide)).symm.trans h), fun h => h11 ((set_other (by decide)).symm.trans h), fun h h6 => kA ((set_other (by decide)).symm.trans h) ((set_other (by decide)).symm.trans h6), fun h h6 => kO ((set_other (by decide)).symm.trans h) ((set_other (by decide)).symm.trans h6), fun h h6 => kB ((set_other (by decide)).symm.trans h) ((set_other (by decide)).symm.trans h6)⟩
              · refine wpOp_val (Value.slice A cs.length c) rfl (by rfl) (by go_simp) ?_
                exact ⟨by simpa using hL, _, _, _, _, _, _, _, _, _, _, _, _, rfl, hbw', fun h => h0 ((set_other (by decide)).symm.trans h), fun _ => rfl, fun h => h3 ((set_other (by decide)).symm.trans h), fun h => h6 ((set_other (by decide)).symm.trans h), fun h => h7 ((set_other (by decide)).symm.trans h), fun h => h8 ((set_other (by decide)).symm.trans h), fun h => h9 ((set_other (by decide)).symm.trans h), fun h => h10 ((set_other (by decide)).symm.trans h), fun h => h11 ((set_other (by decide)).symm.trans h), fun h h6 => kA ((set_other (by decide)).symm.trans h) ((set_other (by decide)).symm.trans h6), fun h h6 => kO ((set_other (by decide)).symm.trans h) ((set_other (by decide)).symm.trans h6), fun h h6 => kB ((set_other (by decide)).symm.trans h) ((set_other (by decide)).symm.trans h6)⟩
              · obtain rfl := h1 (ready_dep hi 1 (by kernel_rfl))
                refine wpOp_wp rfl (by rfl) (wp_append_cls _ _ rfl rfl A c ts cs.length HN.out rfl (fun h0 => ?_) hl20 w6.heap.size hsz fun v' w'' g1 g2 => ?_)
                · obtain ⟨g0, o0, e0, hg0, hc0⟩ := htc h0
                  exact ⟨g0, o0, e0, fun j u hu => by
                    have := hc0 j u hu
                    rw [plain_add] at this ⊢
                    exact (Below.cell hbw' (p := ⟨g0, o0 + j, none⟩) hg0).trans this⟩
                exact ⟨by simpa using hL, _, _, _, _, _, _, _, _, _, _, _, _, rfl, (below_nil hbw' g2 (Nat.le_refl _)), fun h => h0 ((set_other (by decide)).symm.trans h), fun h => h1 ((set_other (by decide)).symm.trans h), fun h => h3 ((set_other (by decide)).symm.trans h), fun h => h6 ((set_other (by decide)).symm.trans h), fun h => h7 ((set_other (by decide)).symm.trans h), fun h => h8 ((set_other (by decide)).symm.trans h), fun h => h9 ((set_other (by decide)).symm.trans h), fun h => h10 ((set_other (by decide)).symm.trans h), fun h => h11 ((set_other (by decide)).symm.trans h), fun _ _ => g1, fun h h6 => OneC.grown (kO ((set_other (by decide)).symm.trans h) ((set_other (by decide)).symm.trans h6)) (g2), fun h h6 => own_grown (kB ((set_other (by decide)).symm.trans h) ((set_other (by decide)).symm.trans h6)) (g2)⟩
              · have e0 := (Below.cell hbw' (p := ⟨w3.heap.size, 0, none⟩) (by simp only; omega)).trans q0
                have e1 := (Below.cell hbw' (p := ⟨w3.heap.size, 1, none⟩) (by simp only; omega)).trans q1
                have e2 := (Below.cell hbw' (p := ⟨w3.heap.size, 2, none⟩) (by simp only; omega)).trans q2
                have e3 := (Below.cell hbw' (p := ⟨w3.heap.size, 3, none⟩) (by simp only; omega)).trans q3
                have e4 := (Below.cell hbw' (p := ⟨w3.heap.size, 4, none⟩) (by simp only; omega)).trans q4
                have e5 := (Below.cell hbw' (p := ⟨w3.heap.size, 5, none⟩) (by simp only; omega)).trans q5
                have e6 := (Below.cell hbw' (p := ⟨w3.heap.size, 6, none⟩) (by simp only; omega)).trans q6
                refine wpOp_val (Value.agg #[I k, I a, I b, I n, I m, Value.slice Ag g.length cap, Value.bool (!ng)]) rfl (by rfl) (by go_simp) ?_
                exact ⟨by simpa using hL, _, _, _, _, _, _, _, _, _, _, _, _, rfl, hbw', fun h => h0 ((set_other (by decide)).symm.trans h), fun h => h1 ((set_other (by decide)).symm.trans h), fun _ => rfl, fun h => h6 ((set_other (by decide)).symm.trans h), fun h => h7 ((set_other (by decide)).symm.trans h), fun h => h8 ((set_other (by decide)).symm.trans h), fun h => h9 ((set_other (by decide)).symm.trans h), fun h => h10 ((set_other (by decide)).symm.trans h), fun h => h11 ((set_other (by decide)).symm.trans h), fun h h6 => kA ((set_other (by decide)).symm.trans h) ((set_other (by decide)).symm.trans h6), fun h h6 => kO ((set_other (by decide)).symm.trans h) ((set_other (by decide)).symm.trans h6), fun h h6 => kB ((set_other (by decide)).symm.trans h) ((set_other (by decide)).symm.trans h6)⟩
              · obtain rfl := h3 (ready_dep hi 3 (by kernel_rfl))
                refine wpOp_wp rfl (by rfl) (opwp_res (r := .ok (.value (.slice (some ⟨w'.heap.size, 0, none⟩) 1 1)) (w'.alloc (.cells (clArr ((⟨k, a, b, n, m, g, !ng⟩, Ag, cap) : ClT).1 ((⟨k, a, b, n, m, g, !ng⟩, Ag, cap) : ClT).2.1 ((⟨k, a, b, n, m, g, !ng⟩, Ag, cap) : ClT).2.2) 26))) (by go_simp; rfl) ?_)
                exact ⟨by simpa using hL, _, _, _, _, _, _, _, _, _, _, _, _, rfl, (hbw'.alloc hsz _), fun h => h0 ((set_other (by decide)).symm.trans h), fun h => h1 ((set_other (by decide)).symm.trans h), fun h => h3 ((set_other (by decide)).symm.trans h), fun h => h6 ((set_other (by decide)).symm.trans h), fun h => h7 ((set_other (by decide)).symm.trans h), fun h => h8 ((set_other (by decide)).symm.trans h), fun h => h9 ((set_other (by decide)).symm.trans h), fun h => h10 ((set_other (by decide)).symm.trans h), fun h => h11 ((set_other (by decide)).symm.trans h), fun h h6 => own_grown (kA ((set_other (by decide)).symm.trans h) ((set_other (by decide)).symm.trans h6)) (World.grownBy_alloc _ _ _), fun _ _ => OneC.alloc ((⟨k, a, b, n, m, g, !ng⟩, Ag, cap) : ClT) hsz, fun h h6 => own_grown (kB ((set_other (by decide)).symm.trans h) ((set_other (by decide)).symm.trans h6)) (World.grownBy_alloc _ _ _)⟩
              · have hn6 := ready_not' hi (by omega)
                have hA := kA (ready_dep hi 2 (by kernel_rfl)) hn6
                obtain ⟨bo, rfl, hbo, hblk⟩ := kO (ready_dep hi 4 (by kernel_rfl)) hn6
                refine wpOp_wp rfl (by rfl) (wp_append_clue _ _ rfl u67 rfl ts cs.length w6.heap.size hsz hA hl20 bo ((⟨k, a, b, n, m, g, !ng⟩, Ag, cap) : ClT) rfl hblk fun v' w'' g1 g2 => ?_)
                exact ⟨by simpa using hL, _, _, _, _, _, _, _, _, _, _, _, _, rfl, (below_own hbw' hA g2 (Nat.le_refl _)), fun h => h0 ((set_other (by decide)).symm.trans h), fun h => h1 ((set_other (by decide)).symm.trans h), fun h => h3 ((set_other (by decide)).symm.trans h), fun h => h6 ((set_other (by decide)).symm.trans h), fun h => h7 ((set_other (by decide)).symm.trans h), fun h => h8 ((set_other (by decide)).symm.trans h), fun h => h9 ((set_other (by decide)).symm.trans h), fun h => h10 ((set_other (by decide)).symm.trans h), fun h => h11 ((set_other (by decide)).symm.trans h), fun _ h6 => (not_bumped (by omega) h6).elim, fun _ h6 => (not_bumped (by omega) h6).elim, fun _ _ => g1⟩
              · obtain rfl := h0 (ready_dep hi 0 (by kernel_rfl))
                have hn7 := ready_not' hi (by omega)
                obtain ⟨A', c', e60, hcl⟩ := own_cls_snoc (kB (ready_dep hi 5 (by kernel_rfl)) hn7) HN.out (fun t ht => ⟨ints_call hbw' (hti t ht).1, (hti t ht).2⟩) ⟨ints_call hbw' hg6, lg⟩
                rw [HTS.out] at e60 hcl
                subst e60
                refine wpOp_wp rfl (by rfl) (wp_call_fns (vs := #[lockV W S, .slice A' (cs ++ [((⟨k, a, b, n, m, g, !ng⟩, Ag, cap) : ClT).1]).length c']) rfl (by simp [Act.eval]) (enters_of Tryd.func32 (by kernel_rfl) rfl) ((Count_any W S A' c' _ w' (hT6.below hbw') hcl (by simp; unfold maxLen; omega)).mono ?_))
                rintro e wv ⟨rfl, hb⟩
                exact ⟨by simpa using hL, _, _, _, _, _, _, _, _, _, _, _, _, rfl, (hbw'.trans (hb.mono hsz)), fun h => h0 ((set_other (by decide)).symm.trans h), fun h => h1 ((set_other (by decide)).symm.trans h), fun h => h3 ((set_other (by decide)).symm.trans h), fun _ => rfl, fun h => h7 ((set_other (by decide)).symm.trans h), fun h => h8 ((set_other (by decide)).symm.trans h), fun h => h9 ((set_other (by decide)).symm.trans h), fun h => h10 ((set_other (by decide)).symm.trans h), fun h => h11 ((set_other (by decide)).symm.trans h), fun h h6 => own_grown (kA ((set_other (by decide)).symm.trans h) ((set_other (by decide)).symm.trans h6)) (grown_of_below hb (Nat.le_refl _)), fun h h6 => OneC.grown (kO ((set_other (by decide)).symm.trans h) ((set_other (by decide)).symm.trans h6)) (grown_of_below hb (Nat.le_refl _)), fun _ h6 => (not_bumped (by omega) h6).elim⟩
              · obtain rfl := h6 (ready_dep hi 6 (by kernel_rfl))
                refine wpOp_val (Value.tuple #[I (cntN W S (cs ++ [⟨k, a, b, n, m, g, !ng⟩])), I (cntE W S (cs ++ [⟨k, a, b, n, m, g, !ng⟩]))]) rfl (by rfl) (by go_simp) ?_
                exact ⟨by simpa using hL, _, _, _, _, _, _, _, _, _, _, _, _, rfl, hbw', fun h => h0 ((set_other (by decide)).symm.trans h), fun h => h1 ((set_other (by decide)).symm.trans h), fun h => h3 ((set_other (by decide)).symm.trans h), fun h => h6 ((set_other (by decide)).symm.trans h), fun _ => rfl, fun h => h8 ((set_other (by decide)).symm.trans h), fun h => h9 ((set_other (by decide)).symm.trans h), fun h => h10 ((set_other (by decide)).symm.trans h), fun h => h11 ((set_other (by decide)).symm.trans h), fun h h6 => kA ((set_other (by decide)).symm.trans h) ((set_other (by decide)).symm.trans h6), fun h h6 => kO ((set_other (by decide)).symm.trans h) ((set_other (by decide)).symm.trans h6), fun h h6 => kB ((set_other (by decide)).symm.trans h) ((set_other (by decide)).symm.trans h6)⟩
              · obtain rfl := h7 (ready_dep hi 7 (by kernel_rfl))
                refine wpOp_val (I (cntN W S (cs ++ [⟨k, a, b, n, m, g, !ng⟩]))) rfl (by rfl) (by go_simp) ?_
                exact ⟨by simpa using hL, _, _, _, _, _, _, _, _, _, _, _, _, rfl, hbw', fun h => h0 ((set_other (by decide)).symm.trans h), fun h => h1 ((set_other (by decide)).symm.trans h), fun h => h3 ((set_other (by decide)).symm.trans h), fun h => h6 ((set_other (by decide)).symm.trans h), fun h => h7 ((set_other (by decide)).symm.trans h), fun _ => rfl, fun h => h9 ((set_other (by decide)).symm.trans h), fun h => h10 ((set_other (by decide)).symm.trans h), fun h => h11 ((set_other (by decide)).symm.trans h), fun h h6 => kA ((set_other (by decide)).symm.trans h) ((set_other (by decide)).symm.trans h6), fun h h6 => kO ((set_other (by decide)).symm.trans h) ((set_other (by decide)).symm.trans h6), fun h h6 => kB ((set_other (by decide)).symm.trans h) ((set_other (by decide)).symm.trans h6)⟩
              · obtain rfl := h7 (ready_dep hi 7 (by kernel_rfl))
                refine wpOp_val (I (cntE W S (cs ++ [⟨k, a, b, n, m, g, !ng⟩]))) rfl (by rfl) (by go_simp) ?_
                exact ⟨by simpa using hL, _, _, _, _, _, _, _, _, _, _, _, _, rfl, hbw', fun h => h0 ((set_other (by decide)).symm.trans h), fun h => h1 ((set_other (by decide)).symm.trans h), fun h => h3 ((set_other (by decide)).symm.trans h), fun h => h6 ((set_other (by decide)).symm.trans h), fun h => h7 ((set_other (by decide)).symm.trans h), fun h => h8 ((set_other (by decide)).symm.trans h), fun _ => rfl, fun h => h10 ((set_other (by decide)).symm.trans h), fun h => h11 ((set_other (by decide)).symm.trans h), fun h h6 => kA ((set_other (by decide)).symm.trans h) ((set_other (by decide)).symm.trans h6), fun h h6 => kO ((set_other (by decide)).symm.trans h) ((set_other (by decide)).symm.trans h6), fun h h6 => kB ((set_other (by decide)).symm.trans h) ((set_other (by decide)).symm.trans h6)⟩
              · obtain rfl := h8 (ready_dep hi 8 (by kernel_rfl))
                refine wpOp_val (I (cntN W S (cs ++ [⟨k, a, b, n, m, g, !ng⟩]))) rfl (by rfl) (by go_simp) ?_
                exact ⟨by simpa using hL, _, _, _, _, _, _, _, _, _, _, _, _, rfl, hbw', fun h => h0 ((set_other (by decide)).symm.trans h), fun h => h1 ((set_other (by decide)).symm.trans h), fun h => h3 ((set_other (by decide)).symm.trans h), fun h => h6 ((set_other (by decide)).symm.trans h), fun h => h7 ((set_other (by decide)).symm.trans h), fun h => h8 ((set_other (by decide)).symm.trans h), fun h => h9 ((set_other (by decide)).symm.trans h), fun _ => rfl, fun h => h11 ((set_other (by decide)).symm.trans h), fun h h6 => kA ((set_other (by decide)).symm.trans h) ((set_other (by decide)).symm.trans h6), fun h h6 => kO ((set_other (by decide)).symm.trans h) ((set_other (by decide)).symm.trans h6), fun h h6 => kB ((set_other (by decide)).symm.trans h) ((set_other (by decide)).symm.trans h6)⟩
              · obtain rfl := h9 (ready_dep hi 9 (by kernel_rfl))
                refine wpOp_val (I (cntE W S (cs ++ [⟨k, a, b, n, m, g, !ng⟩]))) rfl (by rfl) (by go_simp) ?_
                exact ⟨by simpa using hL, _, _, _, _, _, _, _, _, _, _, _, _, rfl, hbw', fun h => h0 ((set_other (by decide)).symm.trans h), fun h => h1 ((set_other (by decide)).symm.trans h), fun h => h3 ((set_other (by decide)).symm.trans h), fun h => h6 ((set_other (by decide)).symm.trans h), fun h => h7 ((set_other (by decide)).symm.trans h), fun h => h8 ((set_other (by decide)).symm.trans h), fun h => h9 ((set_other (by decide)).symm.trans h), fun h => h10 ((set_other (by decide)).symm.trans h), fun _ => rfl, fun h h6 => kA ((set_other (by decide)).symm.trans h) ((set_other (by decide)).symm.trans h6), fun h h6 => kO ((set_other (by decide)).symm.trans h) ((set_other (by decide)).symm.trans h6), fun h h6 => kB ((set_other (by decide)).symm.trans h) ((set_other (by decide)).symm.trans h6)⟩
            · rintro L ac w' ⟨hL, u65, u66, u67, u68, u69, u70, u71, u64, u72, u73, u12, u13, rfl, hbw', h0, h1, h3, h6, h7, h8, h9, h10, h11, kA, kO, kB⟩ hr
              have hall := all_listed hL (by kernel_rfl) hr
              obtain rfl := h0 (hall 0 (by decide))
              obtain rfl := h1 (hall 1 (by decide))
              obtain rfl := h3 (hall 3 (by decide))
              obtain rfl := h6 (hall 6 (by decide))
              obtain rfl := h7 (hall 7 (by decide))
              obtain rfl := h8 (hall 8 (by decide))
              obtain rfl := h9 (hall 9 (by decide))
              obtain rfl := h10 (hall 10 (by decide))
              obtain rfl := h11 (hall 11 (by decide))
              clear hall hr hL kA kO kB
              try dsimp only
              go_wp2_with fail
              go_meet
              exact ⟨rfl, rfl, hbw'⟩
          case rest =>
            obtain ⟨rfl, rfl, hb7⟩ := hcut
            obtain ⟨w7, hw7⟩ : ∃ w7 : World, w7 = wc := ⟨_, rfl⟩
            subst hw7
            clear l0 l1 q0 q1 q2 q3 q4 q5 q6 hti htc HTS HN
            clear ts
            have hx7 := cls_call hb7 hx6
            have hy7 := ints_call hb7 hy6
            have hT7 := hT6.below hb7
            have hbb7 : Below w.heap.size w w7 := hbb6.trans (hb7.mono (by omega))
            have Z0 := Lib.hid ((hb7.block _ (by omega)).trans Z0.out)
            have Z1 := Lib.hid ((hb7.block _ (by omega)).trans Z1.out)
            have s7 : w.heap.size + 1 < w7.heap.size := by have := hb7.size; omega
            clear hb7 hx6 hg6 hy6 hT6 hbb6 s6 Z2
            have E1 := ex_err HE.out (ex_clue HR.out) hl20
            have E2 : cntE W S (cs ++ [⟨k, a, b, n, m, g, !ng⟩]) = 0 := ex_err HE.out (c := opp ⟨k, a, b, n, m, g, ng⟩) (ex_clue HR.out) hl20
            obtain ⟨p, q, hp, hq, hn, hpq, hp4⟩ := ex_num HE.out E1 E2
            have hq' : cntN W S (cs ++ [⟨k, a, b, n, m, g, !ng⟩]) = q := hq
            rw [HE.out, E1, E2, hp, hq', hn]
            have hre : rdE W S cs 64 = 0 := by rw [rdE, if_pos HE.out]; rfl
            obtain ⟨L, hL⟩ : ∃ L, L = (readings W.toNat S.toNat cs).take 64 := ⟨_, rfl⟩
            have hrl : rdL W S cs 64 = L := by rw [rdL, if_pos hre, hL]; rfl
            have HL := Lib.hid hL
            have HPQ := Lib.hid hpq
            have HLL := Lib.hid (p := L.length = min 64 (p + q)) (by rw [hL, List.length_take, hpq])
            have HLM := Lib.hid (p := ((L.length : Nat) : Int) = min ((p : Int) + q) 64) (by have := HLL.out; omega)
            have hgt : decide ((p : Int) + (q : Int) < (p : Int)) = false := decide_eq_false (by omega)
            have hmin : ((L.length : Int) != if (64 : Int) < (p : Int) + (q : Int) then 64 else (p : Int) + (q : Int)) = false := by
              have := HLM.out
              rw [bne_eq_false_iff_eq, this]
              split <;> omega
            have HRE := Lib.hid hre
            have HRL := Lib.hid hrl
            clear E1 E2 hp hq hn hpq hq' hre hrl hL hb0 hr0
            have l0 : w7.cell? ⟨w.heap.size, 0, none⟩ = some (I W) := cell_of_row w7 _ 0 _ _ _ Z0.out
            have l1 : w7.cell? ⟨w.heap.size, 1, none⟩ = some (I S) := cell_of_row w7 _ 1 _ _ _ Z0.out
            go_wp2_with fail
            refine (Readings_any W S A c cs 64 w7 hT7 hx7 hl).mono ?_
            rintro e w8 ⟨A8, c8, rfl, r8, m8, hb8⟩
            rw [HRL.out] at r8 m8 ⊢
            rw [HRE.out]
            have hx8 := cls_call hb8 hx7
            have hy8 := ints_call hb8 hy7
            have hT8 := hT7.below hb8
            have hbb8 : Below w.heap.size w w8 := hbb7.trans (hb8.mono (by omega))
            have Z0 := Lib.hid ((hb8.block _ (by omega)).trans Z0.out)
            have Z1 := Lib.hid ((hb8.block _ (by omega)).trans Z1.out)
            have s8 : w.heap.size + 1 < w8.heap.size := by have := hb8.size; omega
            clear hb8 hx7 hy7 hT7 hbb7 s7 l0 l1 HRE HRL
            go_upto_region 11 with fail
            go_cut [110] (fun s wx => s = .bool false ∧ wx = w8)
            case first =>
              go_wp2_with fail
              all_goals
                go_meet
                exact ⟨rfl, rfl⟩
            case rest =>
              obtain ⟨rfl, hw8⟩ := hcut
              rw [hw8]
              clear hw8 hgt hmin
              have HX8 := Lib.hid hx8
              have HY8 := Lib.hid hy8
              have HT8 := Lib.hid hT8
              have HR8 := Lib.hid r8
              clear hx8 hy8 hT8 r8
              go_wp2_with fail
              go_loopw [15] (fun i wr => ∃ j : Nat, j ≤ L.length ∧ i = .int .i64 j ∧ Below w8.heap.size w8 wr) (fun i _ => L.length - (intOf i).toNat)
              case atStart => exact ⟨0, Nat.zero_le _, rfl, Below.refl _ _⟩
              case round =>
                obtain ⟨j, hj, rfl, hB⟩ := hrel
                have hT9 := HT8.out.below hB
                have hx9 := cls_call hB HX8.out
                have r9 := sls_call hB HR8.out
                have z0 := (hB.block _ (by omega)).trans Z0.out
                have l0 : wr.cell? ⟨w.heap.size, 0, none⟩ = some (I W) := cell_of_row wr _ 0 _ _ _ z0
                have l1 : wr.cell? ⟨w.heap.size, 1, none⟩ = some (I S) := cell_of_row wr _ 1 _ _ _ z0
                have s9 : w.heap.size + 1 < wr.heap.size := by have := hB.size; omega
                clear z0
                by_cases hlt : j < L.length
                · obtain ⟨a1, rfl, hb1, hc1⟩ := r9 (by omega)
                  obtain ⟨B1, c1, d1, i1, m1⟩ := hc1 j hlt
                  have hmx : L[j] ∈ readings W.toNat S.toNat cs := List.mem_of_mem_take (by rw [← HL.out]; exact List.getElem_mem hlt)
                  have hfx := ex_fit HE.out hmx
                  have HB0 := Lib.hid (p := ∀ h : 0 < j, befB (L[j - 1]'(by omega)) L[j] = true) (fun h => ex_row HL.out (by omega) hlt)
                  obtain ⟨x, hx0⟩ : ∃ x, x = L[j] := ⟨_, rfl⟩
                  rw [← hx0] at d1 i1 m1 hfx
                  have HX0 := Lib.hid hx0
                  have HFX := Lib.hid hfx
                  have p1 : (a1.add j).block < wr.heap.size := by rw [block_of_add]; exact hb1
                  clear hx0 hfx hmx
                  go_upto_region 16 with fail
                  go_cut [16, 17, 18] from 111 to 154 (fun s16 s17 s18 wx => s16 = .int .i64 (-1) ∧ s17 = .bool true ∧ s18 = .int .i64 0 ∧ Below wr.heap.size wr wx)
                  case first =>
                    go_region_held3 (fun w' => Below wr.heap.size wr w' ∧ w'.cell? ⟨w.heap.size, 0, none⟩ = some (I W) ∧ w'.cell? ⟨w.heap.size, 1, none⟩ = some (I S) ∧ w'.cell? (a1.add j) = some (.slice B1 x.length c1))
                      (first | exact ⟨(Below.refl _ _).drew, l0, l1, d1⟩ | exact keptC (by simp only; omega) (by simp only; omega) p1 (by assumption) hb | assumption)
                      ((go_at_call 30; go_must (refine (Fits_any _ _ _ _ _ _ cs x _ ?_ ?_ hl ?_ m1).mono ?_); go_must (exact hT9.below (And.left (by assumption : Below wr.heap.size wr _ ∧ _ ∧ _ ∧ _))); go_must (exact cls_call (And.left (by assumption : Below wr.heap.size wr _ ∧ _ ∧ _ ∧ _)) hx9); go_must (exact ints_call (And.left (by assumption : Below wr.heap.size wr _ ∧ _ ∧ _ ∧ _)) i1); rw [HFX.out.1, HFX.out.2.1, HFX.out.2.2.1]; rintro e w' ⟨rfl, hb⟩))
                    all_goals
                      go_wp2_with fail
                      go_meet
                      exact ⟨rfl, rfl, rfl, And.left (by assumption : Below wr.heap.size wr _ ∧ _ ∧ _ ∧ _)⟩
                  case rest =>
                    obtain ⟨rfl, rfl, rfl, hb10⟩ := hcut
                    have d2 := (hb10.cell p1).trans d1
                    have i2 := ints_call hb10 i1
                    have hb11 := hB.trans (hb10.mono hB.size)
                    have p2 : (a1.add j).block < wc.heap.size := by have := hb10.size; omega
                    have hL64 : L.length ≤ 64 := by have := HLL.out; omega
                    by_cases hj0 : j = 0
                    · have hg : decide ((0 : Int) < (j : Int)) = false := decide_eq_false (by omega)
                      have hg2 : decide (0 < j) = false := decide_eq_false (by omega)
                      have HJ0 := Lib.hid hj0
                      clear hj0 l0 l1 d1 i1 p1
                      go_upto_region 17 with fail
                      go_cut [154] from 111 to 154 (fun s wx => s = .bool false ∧ Below wc.heap.size wc wx)
                      case first =>
                        go_quiet (fail)
                        all_goals
                          go_wp2_with fail
                          go_meet
                          exact ⟨rfl, (by first | exact Below.refl _ _ | exact (Below.refl _ _).drew | exact below_drewN (Below.refl _ _) _)⟩
                      case rest =>
                        obtain ⟨rfl, hb12⟩ := hcut
                        have hb13 := hb11.trans (hb12.mono hb11.size)
                        go_wp2
                        go_roundw
                        case rel => exact ⟨j + 1, by omega, by go_num, hb13⟩
                        case measure => simp [intOf]; omega
                    · have hjp : 0 < j := by omega
                      have hbf := HB0.out hjp
                      obtain ⟨B0, c0, d0, i0, m0⟩ := hc1 (j - 1) (by omega)
                      obtain ⟨x0, hx00⟩ : ∃ x0, x0 = L[j - 1]'(by omega) := ⟨_, rfl⟩
                      rw [← hx00] at d0 i0 m0 hbf
                      rw [← HX0.out] at hbf
                      have p0 : (a1.add (j - 1)).block < wr.heap.size := by rw [block_of_add]; exact hb1
                      have d3 := (hb10.cell p0).trans d0
                      have i3 := ints_call hb10 i0
                      have p3 : (a1.add (j - 1)).block < wc.heap.size := by have := hb10.size; omega
                      obtain ⟨i', hi'⟩ : ∃ i' : Nat, i' = j - 1 := ⟨_, rfl⟩
                      rw [← hi'] at d3 p3
                      have hL64 : L.length ≤ 64 := by have := HLL.out; omega
                      have hw0 : (j : Int) - 1 = (i' : Int) := by omega
                      have hw1 : wrap64 ((j : Int) - 1) = (i' : Int) := by rw [hw0]; exact IntWalk.wrap64_in _ ⟨by omega, by omega⟩
                      have hw2 : IntKind.i64.wrap ((j : Int) - 1) = (i' : Int) := (IntWalk.i64_left _).trans hw1
                      have hw3 : IntKind.i64.wrap (i' : Int) = (i' : Int) := (IntWalk.i64_left _).trans (IntWalk.wrap64_in _ ⟨by omega, by omega⟩)
                      clear hw0
                      have hi3 : i' < L.length := by omega
                      have hg : decide ((0 : Int) < (j : Int)) = true := decide_eq_true (by omega)
                      have hg2 : decide (0 < j) = true := decide_eq_true (by omega)
                      have HI := Lib.hid hi'
                      clear hj0 hi' hx00 l0 l1 d1 i1 p1 d0 i0 p0 hc1
                      go_upto_region 17 with fail
                      go_cut [154] from 111 to 154 (fun s wx => s = .bool false ∧ Below wc.heap.size wc wx)
                      case first =>
                        go_region_held3 (fun w' => Below wc.heap.size wc w' ∧ w'.cell? (a1.add i') = some (.slice B0 x0.length c0) ∧ w'.cell? (a1.add j) = some (.slice B1 x.length c1))
                          (first | exact ⟨(Below.refl _ _).drew, d3, d2⟩ | exact keptB p3 p2 (by assumption) hb | assumption)
                          ((go_at_call 59; go_must (refine (before_any _ _ _ _ x0 x _ ?_ ?_ m0 m1).mono ?_); go_must (exact ints_call (And.left (by assumption : Below wc.heap.size wc _ ∧ _ ∧ _)) i3); go_must (exact ints_call (And.left (by assumption : Below wc.heap.size wc _ ∧ _ ∧ _)) i2); rw [hbf]; rintro e w' ⟨rfl, hb⟩))
                        all_goals
                          go_wp2_with fail
                          go_meet
                          exact ⟨rfl, And.left (by assumption : Below wc.heap.size wc _ ∧ _ ∧ _)⟩
                      case rest =>
                        obtain ⟨rfl, hb12⟩ := hcut
                        have hb13 := hb11.trans (hb12.mono hb11.size)
                        go_wp2
                        go_roundw
                        case rel => exact ⟨j + 1, by omega, by go_num, hb13⟩
                        case measure => simp [intOf]; omega
                · obtain rfl : j = L.length := by omega
                  have Z1' := Z1
                  have Z0' := Z0
                  have z1 := (hB.block _ (by omega)).trans Z1.out
                  have q7 : wr.cell? ⟨w.heap.size + 1, 7, none⟩ = some (.slice A2 y.length k2) := cell_of_row wr _ 7 _ _ _ z1
                  have Z1 := Lib.hid z1
                  have Z0 := Lib.hid ((hB.block _ (by omega)).trans Z0.out)
                  clear z1
                  go_wp2_with fail
                  refine (rCheckCode_any W S A2 k2 y wr (ints_call hB HY8.out) ly).mono ?_
                  rintro e w10 ⟨rfl, hb10⟩
                  have hb11 := hB.trans (hb10.mono hB.size)
                  by_cases hrc : rCodeErr W S y = 0
                  · have hrc0 : (rCodeErr W S y != 0) = false := by simp [hrc]
                    have HRC := Lib.hid hrc
                    clear hrc
                    go_upto_region 21 with fail
                    exact exact_tail (by kernel_rfl) (by kernel_rfl) rfl (by assumption) HE HL HPQ HLL HRC hl ly HX8 HY8 HT8 HR8 Z0' Z1' s8 hbb8 hB hb10
                  · have hrc0 : (rCodeErr W S y != 0) = true := by simpa using hrc
                    clear hrc
                    go_wp2_with fail
                    refine (works_any w10 (HT8.out.below hb11)).mono ?_
                    rintro e w11 ⟨rfl, hb12⟩
                    go_wp2
                    go_ret
                    exact ⟨rfl, hbb8.trans ((hb11.mono (by omega)).trans (hb12.mono (by have := hb11.size; omega)))⟩
    · have hr0 : (rClueErr W S ⟨k, a, b, n, m, g, ng⟩ != 0) = true := by simpa using hr
      clear hr
      go_wp2_with fail
      refine (works_any w3 hT3).mono ?_
      rintro e w4 ⟨rfl, hb4⟩
      go_wp2
      go_ret
      exact ⟨rfl, hbb3.trans (hb4.mono (by omega))⟩
  · have hb0 : (cntE W S cs != 0) = true := by simpa using he
    clear he
    go_wp2_with fail
    refine (works_any w2 hT2).mono ?_
    rintro e w3 ⟨rfl, hb3⟩
    go_wp2
    go_ret
    exact ⟨rfl, hbb2.trans (hb3.mono (by omega))⟩
end Go.Proofs.YthegmomjfbcabaaDoor
