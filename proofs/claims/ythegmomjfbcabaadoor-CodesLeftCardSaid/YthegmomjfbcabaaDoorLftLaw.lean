/-
  CONTRACT: the law CodesLeft.
-/
import Derived.Test.YthegmomjfbcabaaDoorLftPure
namespace Go.Proofs.YthegmomjfbcabaaDoor
open Go.RowKit
def lftB (W S : Int) (cs : List Cl) : Bool := !(decide (cntE W S cs = 0) && (decide (cntN W S cs ≤ 60) && decide (cs.length < 20)))
theorem lftB_no {W S : Int} {cs : List Cl} (h : cntE W S cs = 0 ∧ cntN W S cs ≤ 60 ∧ cs.length < 20) : lftB W S cs = false := by
  rw [lftB, decide_eq_true h.1, decide_eq_true h.2.1, decide_eq_true h.2.2]; rfl
theorem lftB_yes {W S : Int} {cs : List Cl} (h : ¬ (cntE W S cs = 0 ∧ cntN W S cs ≤ 60 ∧ cs.length < 20)) : lftB W S cs = true := by
  cases e : lftB W S cs
  · rw [lftB, Bool.not_eq_false', Bool.and_eq_true, Bool.and_eq_true, decide_eq_true_eq, decide_eq_true_eq, decide_eq_true_eq] at e
    exact absurd e h
  · rfl

set_option maxRecDepth 100000 in
set_option maxHeartbeats 4000000 in
theorem left_law (W S : Int) (A : Option Addr) (c : Nat) (cs : List Cl) (A2 : Option Addr) (k2 : Nat) (y : List Int) (w : World) (hT : Tab w) (hx : ClsR w w.heap.size A cs) (hl : cs.length ≤ maxLen) (hy : IntsR w w.heap.size A2 y) (ly : y.length ≤ maxLen) :
    Calls Tryd.prog 18 #[lockV W S, .slice A cs.length c, .slice A2 y.length k2] w fun e w' => e = .returned (.bool true) ∧ Below w.heap.size w w' := by
  go_enter Tryd.func18, Tryd.ntmps18
  go_wp2_with fail
  obtain ⟨w1, hw1⟩ : ∃ w1, w1 = w.alloc (.cells #[I W, I S] 23) := ⟨_, rfl⟩
  rw [← hw1]
  have z0 : w1.heap[w.heap.size]? = some (.cells #[I W, I S] 23 (0, 0)) := by rw [hw1]; exact alloc_obj _ _ _ rfl
  have l0 : w1.cell? ⟨w.heap.size, 0, none⟩ = some (I W) := cell_of_row w1 _ 0 _ _ _ z0
  have l1 : w1.cell? ⟨w.heap.size, 1, none⟩ = some (I S) := cell_of_row w1 _ 1 _ _ _ z0
  have hbb1 : Below w.heap.size w w1 := by rw [hw1]; exact (Below.refl _ _).alloc (Nat.le_refl _) _
  have s1 : w.heap.size < w1.heap.size := by rw [hw1]; simp
  have hx1 := cls_call hbb1 hx
  have hy1 := ints_call hbb1 hy
  have hT1 := hT.below hbb1
  have Z0 := Lib.hid z0
  clear hw1 hx hy hT z0
  refine (Count_any W S A c cs w1 hT1 hx1 hl).mono ?_
  rintro e w2 ⟨rfl, hb2⟩
  have Z0 := Lib.hid ((hb2.block _ s1).trans Z0.out)
  clear l0 l1
  have l0 : w2.cell? ⟨w.heap.size, 0, none⟩ = some (I W) := cell_of_row w2 _ 0 _ _ _ Z0.out
  have l1 : w2.cell? ⟨w.heap.size, 1, none⟩ = some (I S) := cell_of_row w2 _ 1 _ _ _ Z0.out
  have hx2 := cls_call hb2 hx1
  have hy2 := ints_call hb2 hy1
  have hT2 := hT1.below hb2
  have s2 : w.heap.size < w2.heap.size := by have := hb2.size; omega
  have hbb2 : Below w.heap.size w w2 := hbb1.trans (hb2.mono (by omega))
  clear hbb1 hb2 hx1 hy1 hT1 s1
  go_upto_region 2 with fail
  go_cut [34] (fun s wx => s = .bool (lftB W S cs) ∧ wx = w2)
  case first =>
    by_cases he : cntE W S cs = 0
    · have g1 : (cntE W S cs != 0) = false := by simp [he]
      have HE := Lib.hid he
      clear he
      by_cases h1 : (60 : Int) < cntN W S cs
      · have g2 : decide ((60 : Int) < cntN W S cs) = true := decide_eq_true h1
        go_wp2_with fail
        go_meet
        exact ⟨by rw [lftB_yes (by omega)], rfl⟩
      · have g2 : decide ((60 : Int) < cntN W S cs) = false := decide_eq_false h1
        by_cases h2 : (20 : Int) ≤ (cs.length : Int)
        · have g3 : decide ((20 : Int) ≤ (cs.length : Int)) = true := decide_eq_true h2
          have g4 : decide (20 ≤ cs.length) = true := decide_eq_true (by omega)
          go_wp2_with fail
          go_meet
          exact ⟨by rw [lftB_yes (by omega)], rfl⟩
        · have g3 : decide ((20 : Int) ≤ (cs.length : Int)) = false := decide_eq_false h2
          have g4 : decide (20 ≤ cs.length) = false := decide_eq_false (by omega)
          go_wp2_with fail
          go_meet
          exact ⟨by rw [lftB_no ⟨HE.out, by omega, by omega⟩], rfl⟩
    · have g1 : (cntE W S cs != 0) = true := by simpa using he
      have HE := Lib.hid he
      clear he
      go_wp2_with fail
      go_meet
      exact ⟨by rw [lftB_yes (fun h => HE.out h.1)], rfl⟩
  case rest =>
    obtain ⟨rfl, hw2⟩ := hcut
    rw [hw2]
    clear hw2
    by_cases hok : cntE W S cs = 0 ∧ cntN W S cs ≤ 60 ∧ cs.length < 20
    · rw [lftB_no hok]
      obtain ⟨he, h60, hl20⟩ := hok
      obtain ⟨nxz, nxs⟩ := left_next he
      obtain ⟨R, hR⟩ : ∃ R, R = readings W.toNat S.toNat cs := ⟨_, rfl⟩
      obtain ⟨n, hn⟩ : ∃ n : Nat, n = R.length := ⟨_, rfl⟩
      have hcn : cntN W S cs = (n : Int) := by rw [cntN, if_pos he, hn, hR]
      have hn60 : n ≤ 60 := by rw [hcn] at h60; omega
      rw [← hR, ← hn] at nxz nxs
      have NZ := Lib.hid nxz
      have NS := Lib.hid nxs
      have HE := Lib.hid he
      have HR := Lib.hid hR
      have HN := Lib.hid hn
      rw [hcn, he]
      clear nxz nxs he hR hn hcn h60
      go_wp2_with fail
      refine (Next_any W S A c cs w2 hT2 hx2 hl).mono ?_
      rintro e w3 ⟨A3, c3, rfl, i3, m3, hb3⟩
      have Z0 := Lib.hid ((hb3.block _ s2).trans Z0.out)
      clear l0 l1
      have l0 : w3.cell? ⟨w.heap.size, 0, none⟩ = some (I W) := cell_of_row w3 _ 0 _ _ _ Z0.out
      have l1 : w3.cell? ⟨w.heap.size, 1, none⟩ = some (I S) := cell_of_row w3 _ 1 _ _ _ Z0.out
      have hx3 := cls_call hb3 hx2
      have hy3 := ints_call hb3 hy2
      have hT3 := hT2.below hb3
      have s3 : w.heap.size < w3.heap.size := by have := hb3.size; omega
      have hbb3 : Below w.heap.size w w3 := hbb2.trans (hb3.mono (by omega))
      clear hbb2 hb3 hx2 hy2 hT2 s2
      by_cases h0 : n = 0
      · obtain ⟨e1, e2, e3⟩ := NZ.out h0
        rw [e1, e2, e3]
        have g1 : ((n : Int) == 0) = true := by simp [h0]
        clear h0 e1 e2 e3
        go_wp2_with fail
        refine (works_any w3 hT3).mono ?_
        rintro e w4 ⟨rfl, hb4⟩
        go_wp2
        go_ret
        exact ⟨rfl, hbb3.trans (hb4.mono (by omega))⟩
      · have g0 : ((n : Int) == 0) = false := by simp; omega
        obtain ⟨e1, hgm, mw, e3, hmw, hm1, hm2⟩ := NS.out (by omega) (by omega)
        obtain ⟨g, hg⟩ : ∃ g, g = nxG W S cs := ⟨_, rfl⟩
        rw [e1, e3, ← hg]
        rw [← hg] at i3 m3 hgm hmw
        have hf := ex_fit HE.out (x := g) (by rw [← HR.out]; exact hgm)
        have HF := Lib.hid hf
        have HGM := Lib.hid hgm
        have HMW := Lib.hid hmw
        have hmn : mw ≤ n := by rw [hmw, HN.out, HR.out]; exact mst_le _ _
        have HM2 := Lib.hid hm2
        have HM1 := Lib.hid hm1
        clear h0 e1 e3 hg hf hgm hmw hm2 NS NZ
        go_wp2_with fail
        refine (Fits_any W S A A3 c c3 cs g w3 hT3 hx3 hl i3 m3).mono ?_
        rintro e w4 ⟨rfl, hb4⟩
        rw [HF.out.1, HF.out.2.1, HF.out.2.2.1]
        have Z0 := Lib.hid ((hb4.block _ s3).trans Z0.out)
        clear l0 l1
        have l0 : w4.cell? ⟨w.heap.size, 0, none⟩ = some (I W) := cell_of_row w4 _ 0 _ _ _ Z0.out
        have l1 : w4.cell? ⟨w.heap.size, 1, none⟩ = some (I S) := cell_of_row w4 _ 1 _ _ _ Z0.out
        have hx4 := cls_call hb4 hx3
        have hy4 := ints_call hb4 hy3
        have hT4 := hT3.below hb4
        have s4 : w.heap.size < w4.heap.size := by have := hb4.size; omega
        have hbb4 : Below w.heap.size w w4 := hbb3.trans (hb4.mono (by omega))
        have i3 := ints_call hb4 i3
        clear hbb3 hb4 hx3 hy3 hT3 s3
        go_upto_region 8 with fail
        go_cut [80] (fun s wx => s = .bool false ∧ wx = w4)
        case first =>
          have g1 : decide ((mw : Int) < 1) = false := decide_eq_false (by have := HM1.out; omega)
          have g1' : decide (mw < 1) = false := decide_eq_false (by have := HM1.out; omega)
          by_cases h1 : 1 < n
          · have g2 : decide ((1 : Int) < (n : Int)) = true := decide_eq_true (by omega)
            have g2' : decide (1 < n) = true := decide_eq_true h1
            have g3 : decide ((n : Int) ≤ (mw : Int)) = false := decide_eq_false (by have := HM2.out h1; omega)
            have g3' : decide (n ≤ mw) = false := decide_eq_false (by have := HM2.out h1; omega)
            go_wp2_with fail
            go_meet
            exact ⟨rfl, rfl⟩
          · have g2 : decide ((1 : Int) < (n : Int)) = false := decide_eq_false (by omega)
            have g2' : decide (1 < n) = false := decide_eq_false h1
            go_wp2_with fail
            go_meet
            exact ⟨rfl, rfl⟩
        case rest =>
          obtain ⟨rfl, hw4⟩ := hcut
          rw [hw4]
          clear hw4
          go_wp2_with fail
          refine (Fits_any W S A A2 c k2 cs y w4 hT4 hx4 hl hy4 ly).mono ?_
          rintro e w5 ⟨rfl, hb5⟩
          have Z0 := Lib.hid ((hb5.block _ s4).trans Z0.out)
          clear l0 l1
          have l0 : w5.cell? ⟨w.heap.size, 0, none⟩ = some (I W) := cell_of_row w5 _ 0 _ _ _ Z0.out
          have l1 : w5.cell? ⟨w.heap.size, 1, none⟩ = some (I S) := cell_of_row w5 _ 1 _ _ _ Z0.out
          have hx5 := cls_call hb5 hx4
          have hy5 := ints_call hb5 hy4
          have hT5 := hT4.below hb5
          have s5 : w.heap.size < w5.heap.size := by have := hb5.size; omega
          have hbb5 : Below w.heap.size w w5 := hbb4.trans (hb5.mono (by omega))
          have i3 := ints_call hb5 i3
          clear hbb4 hb5 hx4 hy4 hT4 s4
          by_cases hfe : fitE W S cs y = 0
          · have g1 : (fitE W S cs y != 0) = false := by simp [hfe]
            have HFE := Lib.hid hfe
            clear hfe
            cases hfb : fitB W S cs y
            · clear hfb
              go_wp2_with fail
              refine (works_any w5 hT5).mono ?_
              rintro e w6 ⟨rfl, hb6⟩
              go_wp2
              go_ret
              exact ⟨rfl, hbb5.trans (hb6.mono (by omega))⟩
            · have hym := ex_mem HE.out hfb
              obtain ⟨a1, a2, k, a3, a4, a5⟩ := left_end HE.out hl20 (g := g) (y := y) (by rw [← HR.out]; exact HGM.out) hym
              rw [← HR.out, ← HMW.out] at a5
              have HA1 := Lib.hid a1
              have HA3 := Lib.hid a3
              clear hfb hym
              go_wp2_with fail
              refine (Answer_any W S A2 A3 k2 c3 y g w5 hy5 i3 ly m3).mono ?_
              rintro e w6 ⟨rfl, hb6⟩
              rw [a2]
              obtain ⟨rr, hrr⟩ : ∃ rr, rr = ansR W S y g := ⟨_, rfl⟩
              obtain ⟨mm, hmm⟩ : ∃ mm, mm = ansC W S y g := ⟨_, rfl⟩
              rw [← hrr, ← hmm]
              rw [← hrr, ← hmm] at HA1 HA3
              clear hrr hmm a1 a2 a3
              have Z0 := Lib.hid ((hb6.block _ s5).trans Z0.out)
              clear l0 l1
              have l0 : w6.cell? ⟨w.heap.size, 0, none⟩ = some (I W) := cell_of_row w6 _ 0 _ _ _ Z0.out
              have l1 : w6.cell? ⟨w.heap.size, 1, none⟩ = some (I S) := cell_of_row w6 _ 1 _ _ _ Z0.out
              have hx6 := cls_call hb6 hx5
              have hy6 := ints_call hb6 hy5
              have hT6 := hT5.below hb6
              have s6 : w.heap.size < w6.heap.size := by have := hb6.size; omega
              have hbb6 : Below w.heap.size w w6 := hbb5.trans (hb6.mono (by omega))
              have i3 := ints_call hb6 i3
              clear hbb5 hb6 hx5 hy5 hT5 s5
              go_upto_region 14 with fail
              obtain ⟨ts, hts, hti, htc⟩ := cls_triples hx6
              have HNT := Lib.hid (p := cs.length = ts.length) (by rw [← hts, List.length_map])
              have HTS := Lib.hid hts
              have hg6 := i3
              have lg := m3
              clear hts
              go_cut [16, 17] (fun s16 s17 wx => s16 = I (cntN W S (cs ++ [⟨6, 0, 0, rr, mm, g, false⟩])) ∧ s17 = I (cntE W S (cs ++ [⟨6, 0, 0, rr, mm, g, false⟩])) ∧ Below w6.heap.size w6 wx)
              case first =>
                refine wp_region_inv (by kernel_rfl) (fun L ac w' => L.size = 15 ∧ ∃ u105 u106 u107 u108 u109 u110 u111 u112 u113 u114 u104 u115 u116 u16 u17 : Value, ac = { tmps := #[lockV W S, Value.slice A cs.length c, Value.slice A2 y.length k2, Value.pointer (some ⟨w.heap.size, 0, none⟩), undef, undef, Value.bool false, I n, I 0, Value.slice A3 g.length c3, I mw, I (-1), Value.bool true, I 0, I rr, I mm, u16, u17, u18, u19, u20, u21, u22, u23, u24, u25, u26, u27, u28, u29, u30, u31, u32, u33, u34, u35, u36, u37, u38, u39, u40, u41, u42, u43, u44, u45, u46, u47, u48, u49, u50, u51, u52, u53, u54, u55, u56, u57, u58, u59, u60, u61, u62, u63, u64, u65, u66, u67, u68, u69, u70, u71, u72, u73, u74, u75, u76, u77, u78, u79, Value.bool false, Value.tuple #[I (fitN W S cs y), Value.bool true, I (fitE W S cs y)], Value.agg #[I W, I S], Value.slice A cs.length c, Value.slice A2 y.length k2, Value.tuple #[I (fitN W S cs y), Value.bool true, I (fitE W S cs y)], I (fitN W S cs y), Value.bool true, I (fitE W S cs y), I (fitE W S cs y), Value.bool false, Value.bool false, Value.bool true, Value.bool false, Value.bool false, u95, Value.tuple #[I rr, I mm, I 0], Value.agg #[I W, I S], Value.slice A2 y.length k2, Value.slice A3 g.length c3, Value.tuple #[I rr, I mm, I 0], I rr, I mm, I 0, u104, u105, u106, u107, u108, u109, u110, u111, u112, u113, u114, u115, u116, u117, u118, u119, u120, u121, u122, u123, u124, u125, u126, u127, u128, u129, u130, u131, u132, u133, u134], defers := [] } ∧ Below w6.heap.size w6 w' ∧ (L.getD 0 false = true → u105 = lockV W S) ∧ (L.getD 1 false = true → u106 = Value.slice A cs.length c) ∧ (L.getD 3 false = true → u108 = I rr) ∧ (L.getD 4 false = true → u109 = I mm) ∧ (L.getD 5 false = true → u110 = Value.slice A3 g.length c3) ∧ (L.getD 6 false = true → u111 = Value.agg #[I 6, I 0, I 0, I rr, I mm, Value.slice A3 g.length c3, Value.bool false]) ∧ (L.getD 9 false = true → u114 = Value.tuple #[I (cntN W S (cs ++ [⟨6, 0, 0, rr, mm, g, false⟩])), I (cntE W S (cs ++ [⟨6, 0, 0, rr, mm, g, false⟩]))]) ∧ (L.getD 10 false = true → u104 = Value.tuple #[I (cntN W S (cs ++ [⟨6, 0, 0, rr, mm, g, false⟩])), I (cntE W S (cs ++ [⟨6, 0, 0, rr, mm, g, false⟩]))]) ∧ (L.getD 11 false = true → u115 = I (cntN W S (cs ++ [⟨6, 0, 0, rr, mm, g, false⟩]))) ∧ (L.getD 12 false = true → u116 = I (cntE W S (cs ++ [⟨6, 0, 0, rr, mm, g, false⟩]))) ∧ (L.getD 13 false = true → u16 = I (cntN W S (cs ++ [⟨6, 0, 0, rr, mm, g, false⟩]))) ∧ (L.getD 14 false = true → u17 = I (cntE W S (cs ++ [⟨6, 0, 0, rr, mm, g, false⟩]))) ∧ (L.getD 2 false = true → L.getD 8 false = false → OwnC w' w6.heap.size cs.length u107 ts) ∧ (L.getD 7 false = true → L.getD 8 false = false → OneC w' w6.heap.size u112 ((⟨6, 0, 0, rr, mm, g, false⟩, A3, c3) : ClT)) ∧ (L.getD 8 false = true → L.getD 9 false = false → OwnC w' w6.heap.size (cs.length + 1) u113 (ts ++ [((⟨6, 0, 0, rr, mm, g, false⟩, A3, c3) : ClT)]))) ?_ ?_ ?_
                · exact ⟨by simp, _, _, _, _, _, _, _, _, _, _, _, _, _, _, _, rfl, (Below.refl _ _).drew, by simp, by simp, by simp, by simp, by simp, by simp, by simp, by simp, by simp, by simp, by simp, by simp, by simp, by simp, by simp⟩
                · rintro i L ac w' ⟨hL, u105, u106, u107, u108, u109, u110, u111, u112, u113, u114, u104, u115, u116, u16, u17, rfl, hbw', h0, h1, h3, h4, h5, h6, h9, h10, h11, h12, h13, h14, kA, kO, kB⟩ hi
                  have hcases : i = 0 ∨ i = 1 ∨ i = 2 ∨ i = 3 ∨ i = 4 ∨ i = 5 ∨ i = 6 ∨ i = 7 ∨ i = 8 ∨ i = 9 ∨ i = 10 ∨ i = 11 ∨ i = 12 ∨ i = 13 ∨ i = 14 := by
                    have : i < 15 := ready_lt hi
                    omega
                  have hsz := hbw'.size
                  rcases hcases with rfl | rfl | rfl | rfl | rfl | rfl | rfl | rfl | rfl | rfl | rfl | rfl | rfl | rfl | rfl
                  · have e0 := (Below.cell hbw' (p := ⟨w.heap.size, 0, none⟩) (by simp only; omega)).trans l0
                    have e1 := (Below.cell hbw' (p := ⟨w.heap.size, 1, none⟩) (by simp only; omega)).trans l1
                    refine wpOp_val (lockV W S) rfl (by rfl) (by go_simp) ?_
                    exact ⟨by simpa using hL, _, _, _, _, _, _, _, _, _, _, _, _, _, _, _, rfl, hbw', fun _ => rfl, fun h => h1 ((set_other (by decide)).symm.trans h), fun h => h3 ((set_other (by decide)).symm.trans h), fun h => h4 ((set_other (by decide)).symm.trans h), fun h => h5 ((set_other (by decide)).symm.trans h), fun h => h6 ((set_other (by decide)).symm.trans h), fun h => h9 ((set_other (by decide)).symm.trans h), fun h => h10 ((set_other (by decide)).symm.trans h), fun h => h11 ((set_other (by decide)).symm.trans h), fun h => h12 ((set_other (by decide)).symm.trans h), fun h => h13 ((set_other (by decide)).symm.trans h), fun h => h14 ((set_other (by decide)).symm.trans h), fun h h6 => kA ((set_other (by decide)).symm.trans h) ((set_other (by decide)).symm.trans h6), fun h h6 => kO ((set_other (by decide)).symm.trans h) ((set_other (by decide)).symm.trans h6), fun h h6 => kB ((set_other (by decide)).symm.trans h) ((set_other (by decide)).symm.trans h6)⟩
                  · refine wpOp_val (Value.slice A cs.length c) rfl (by rfl) (by go_simp) ?_
                    exact ⟨by simpa using hL, _, _, _, _, _, _, _, _, _, _, _, _, _, _, _, rfl, hbw', fun h => h0 ((set_other (by decide)).symm.trans h), fun _ => rfl, fun h => h3 ((set_other (by decide)).symm.trans h), fun h => h4 ((set_other (by decide)).symm.trans h), fun h => h5 ((set_other (by decide)).symm.trans h), fun h => h6 ((set_other (by decide)).symm.trans h), fun h => h9 ((set_other (by decide)).symm.trans h), fun h => h10 ((set_other (by decide)).symm.trans h), fun h => h11 ((set_other (by decide)).symm.trans h), fun h => h12 ((set_other (by decide)).symm.trans h), fun h => h13 ((set_other (by decide)).symm.trans h), fun h => h14 ((set_other (by decide)).symm.trans h), fun h h6 => kA ((set_other (by decide)).symm.trans h) ((set_other (by decide)).symm.trans h6), fun h h6 => kO ((set_other (by decide)).symm.trans h) ((set_other (by decide)).symm.trans h6), fun h h6 => kB ((set_other (by decide)).symm.trans h) ((set_other (by decide)).symm.trans h6)⟩
                  · obtain rfl := h1 (ready_dep hi 1 (by kernel_rfl))
                    refine wpOp_wp rfl (by rfl) (wp_append_cls _ _ rfl rfl A c ts cs.length HNT.out rfl (fun h0 => ?_) hl20 w6.heap.size hsz fun v' w'' g1 g2 => ?_)
                    · obtain ⟨g0, o0, e0, hg0, hc0⟩ := htc h0
                      exact ⟨g0, o0, e0, fun j u hu => by
                        have := hc0 j u hu
                        rw [plain_add] at this ⊢
                        exact (Below.cell hbw' (p := ⟨g0, o0 + j, none⟩) hg0).trans this⟩
                    exact ⟨by simpa using hL, _, _, _, _, _, _, _, _, _, _, _, _, _, _, _, rfl, (below_nil hbw' g2 (Nat.le_refl _)), fun h => h0 ((set_other (by decide)).symm.trans h), fun h => h1 ((set_other (by decide)).symm.trans h), fun h => h3 ((set_other (by decide)).symm.trans h), fun h => h4 ((set_other (by decide)).symm.trans h), fun h => h5 ((set_other (by decide)).symm.trans h), fun h => h6 ((set_other (by decide)).symm.trans h), fun h => h9 ((set_other (by decide)).symm.trans h), fun h => h10 ((set_other (by decide)).symm.trans h), fun h => h11 ((set_other (by decide)).symm.trans h), fun h => h12 ((set_other (by decide)).symm.trans h), fun h => h13 ((set_other (by decide)).symm.trans h), fun h => h14 ((set_other (by decide)).symm.trans h), fun _ _ => g1, fun h h6 => OneC.grown (kO ((set_other (by decide)).symm.trans h) ((set_other (by decide)).symm.trans h6)) (g2), fun h h6 => own_grown (kB ((set_other (by decide)).symm.trans h) ((set_other (by decide)).symm.trans h6)) (g2)⟩
                  · refine wpOp_val (I rr) rfl (by rfl) (by go_simp) ?_
                    exact ⟨by simpa using hL, _, _, _, _, _, _, _, _, _, _, _, _, _, _, _, rfl, hbw', fun h => h0 ((set_other (by decide)).symm.trans h), fun h => h1 ((set_other (by decide)).symm.trans h), fun _ => rfl, fun h => h4 ((set_other (by decide)).symm.trans h), fun h => h5 ((set_other (by decide)).symm.trans h), fun h => h6 ((set_other (by decide)).symm.trans h), fun h => h9 ((set_other (by decide)).symm.trans h), fun h => h10 ((set_other (by decide)).symm.trans h), fun h => h11 ((set_other (by decide)).symm.trans h), fun h => h12 ((set_other (by decide)).symm.trans h), fun h => h13 ((set_other (by decide)).symm.trans h), fun h => h14 ((set_other (by decide)).symm.trans h), fun h h6 => kA ((set_other (by decide)).symm.trans h) ((set_other (by decide)).symm.trans h6), fun h h6 => kO ((set_other (by decide)).symm.trans h) ((set_other (by decide)).symm.trans h6), fun h h6 => kB ((set_other (by decide)).symm.trans h) ((set_other (by decide)).symm.trans h6)⟩
                  · refine wpOp_val (I mm) rfl (by rfl) (by go_simp) ?_
                    exact ⟨by simpa using hL, _, _, _, _, _, _, _, _, _, _, _, _, _, _, _, rfl, hbw', fun h => h0 ((set_other (by decide)).symm.trans h), fun h => h1 ((set_other (by decide)).symm.trans h), fun h => h3 ((set_other (by decide)).symm.trans h), fun _ => rfl, fun h => h5 ((set_other (by decide)).symm.trans h), fun h => h6 ((set_other (by decide)).symm.trans h), fun h => h9 ((set_other (by decide)).symm.trans h), fun h => h10 ((set_other (by decide)).symm.trans h), fun h => h11 ((set_other (by decide)).symm.trans h), fun h => h12 ((set_other (by decide)).symm.trans h), fun h => h13 ((set_other (by decide)).symm.trans h), fun h => h14 ((set_other (by decide)).symm.trans h), fun h h6 => kA ((set_other (by decide)).symm.trans h) ((set_other (by decide)).symm.trans h6), fun h h6 => kO ((set_other (by decide)).symm.trans h) ((set_other (by decide)).symm.trans h6), fun h h6 => kB ((set_other (by decide)).symm.trans h) ((set_other (by decide)).symm.trans h6)⟩
                  · refine wpOp_val (Value.slice A3 g.length c3) rfl (by rfl) (by go_simp) ?_
                    exact ⟨by simpa using hL, _, _, _, _, _, _, _, _, _, _, _, _, _, _, _, rfl, hbw', fun h => h0 ((set_other (by decide)).symm.trans h), fun h => h1 ((set_other (by decide)).symm.trans h), fun h => h3 ((set_other (by decide)).symm.trans h), fun h => h4 ((set_other (by decide)).symm.trans h), fun _ => rfl, fun h => h6 ((set_other (by decide)).symm.trans h), fun h => h9 ((set_other (by decide)).symm.trans h), fun h => h10 ((set_other (by decide)).symm.trans h), fun h => h11 ((set_other (by decide)).symm.trans h), fun h => h12 ((set_other (by decide)).symm.trans h), fun h => h13 ((set_other (by decide)).symm.trans h), fun h => h14 ((set_other (by decide)).symm.trans h), fun h h6 => kA ((set_other (by decide)).symm.trans h) ((set_other (by decide)).symm.trans h6), fun h h6 => kO ((set_other (by decide)).symm.trans h) ((set_other (by decide)).symm.trans h6), fun h h6 => kB ((set_other (by decide)).symm.trans h) ((set_other (by decide)).symm.trans h6)⟩
                  · obtain rfl := h3 (ready_dep hi 3 (by kernel_rfl))
                    obtain rfl := h4 (ready_dep hi 4 (by kernel_rfl))
                    obtain rfl := h5 (ready_dep hi 5 (by kernel_rfl))
                    refine wpOp_val (Value.agg #[I 6, I 0, I 0, I rr, I mm, Value.slice A3 g.length c3, Value.bool false]) rfl (by rfl) (by go_simp) ?_
                    exact ⟨by simpa using hL, _, _, _, _, _, _, _, _, _, _, _, _, _, _, _, rfl, hbw', fun h => h0 ((set_other (by decide)).symm.trans h), fun h => h1 ((set_other (by decide)).symm.trans h), fun h => h3 ((set_other (by decide)).symm.trans h), fun h => h4 ((set_other (by decide)).symm.trans h), fun h => h5 ((set_other (by decide)).symm.trans h), fun _ => rfl, fun h => h9 ((set_other (by decide)).symm.trans h), fun h => h10 ((set_other (by decide)).symm.trans h), fun h => h11 ((set_other (by decide)).symm.trans h), fun h => h12 ((set_other (by decide)).symm.trans h), fun h => h13 ((set_other (by decide)).symm.trans h), fun h => h14 ((set_other (by decide)).symm.trans h), fun h h6 => kA ((set_other (by decide)).symm.trans h) ((set_other (by decide)).symm.trans h6), fun h h6 => kO ((set_other (by decide)).symm.trans h) ((set_other (by decide)).symm.trans h6), fun h h6 => kB ((set_other (by decide)).symm.trans h) ((set_other (by decide)).symm.trans h6)⟩
                  · obtain rfl := h6 (ready_dep hi 6 (by kernel_rfl))
                    refine wpOp_wp rfl (by rfl) (opwp_res (r := .ok (.value (.slice (some ⟨w'.heap.size, 0, none⟩) 1 1)) (w'.alloc (.cells (clArr ((⟨6, 0, 0, rr, mm, g, false⟩, A3, c3) : ClT).1 ((⟨6, 0, 0, rr, mm, g, false⟩, A3, c3) : ClT).2.1 ((⟨6, 0, 0, rr, mm, g, false⟩, A3, c3) : ClT).2.2) 26))) (by go_simp; rfl) ?_)
                    exact ⟨by simpa using hL, _, _, _, _, _, _, _, _, _, _, _, _, _, _, _, rfl, (hbw'.alloc hsz _), fun h => h0 ((set_other (by decide)).symm.trans h), fun h => h1 ((set_other (by decide)).symm.trans h), fun h => h3 ((set_other (by decide)).symm.trans h), fun h => h4 ((set_other (by decide)).symm.trans h), fun h => h5 ((set_other (by decide)).symm.trans h), fun h => h6 ((set_other (by decide)).symm.trans h), fun h => h9 ((set_other (by decide)).symm.trans h), fun h => h10 ((set_other (by decide)).symm.trans h), fun h => h11 ((set_other (by decide)).symm.trans h), fun h => h12 ((set_other (by decide)).symm.trans h), fun h => h13 ((set_other (by decide)).symm.trans h), fun h => h14 ((set_other (by decide)).symm.trans h), fun h h6 => own_grown (kA ((set_other (by decide)).symm.trans h) ((set_other (by decide)).symm.trans h6)) (World.grownBy_alloc _ _ _), fun _ _ => OneC.alloc ((⟨6, 0, 0, rr, mm, g, false⟩, A3, c3) : ClT) hsz, fun h h6 => own_grown (kB ((set_other (by decide)).symm.trans h) ((set_other (by decide)).symm.trans h6)) (World.grownBy_alloc _ _ _)⟩
                  · have hn6 := ready_not' hi (by omega)
                    have hA := kA (ready_dep hi 2 (by kernel_rfl)) hn6
                    obtain ⟨bo, rfl, hbo, hblk⟩ := kO (ready_dep hi 7 (by kernel_rfl)) hn6
                    refine wpOp_wp rfl (by rfl) (wp_append_clue _ _ rfl u107 rfl ts cs.length w6.heap.size hsz hA hl20 bo ((⟨6, 0, 0, rr, mm, g, false⟩, A3, c3) : ClT) rfl hblk fun v' w'' g1 g2 => ?_)
                    exact ⟨by simpa using hL, _, _, _, _, _, _, _, _, _, _, _, _, _, _, _, rfl, (below_own hbw' hA g2 (Nat.le_refl _)), fun h => h0 ((set_other (by decide)).symm.trans h), fun h => h1 ((set_other (by decide)).symm.trans h), fun h => h3 ((set_other (by decide)).symm.trans h), fun h => h4 ((set_other (by decide)).symm.trans h), fun h => h5 ((set_other (by decide)).symm.trans h), fun h => h6 ((set_other (by decide)).symm.trans h), fun h => h9 ((set_other (by decide)).symm.trans h), fun h => h10 ((set_other (by decide)).symm.trans h), fun h => h11 ((set_other (by decide)).symm.trans h), fun h => h12 ((set_other (by decide)).symm.trans h), fun h => h13 ((set_other (by decide)).symm.trans h), fun h => h14 ((set_other (by decide)).symm.trans h), fun _ h6 => (not_bumped (by omega) h6).elim, fun _ h6 => (not_bumped (by omega) h6).elim, fun _ _ => g1⟩
                  · obtain rfl := h0 (ready_dep hi 0 (by kernel_rfl))
                    have hn7 := ready_not' hi (by omega)
                    obtain ⟨A', c', e60, hcl⟩ := own_cls_snoc (kB (ready_dep hi 8 (by kernel_rfl)) hn7) HNT.out (fun t ht => ⟨ints_call hbw' (hti t ht).1, (hti t ht).2⟩) ⟨ints_call hbw' hg6, lg⟩
                    rw [HTS.out] at e60 hcl
                    subst e60
                    refine wpOp_wp rfl (by rfl) (wp_call_fns (vs := #[lockV W S, .slice A' (cs ++ [((⟨6, 0, 0, rr, mm, g, false⟩, A3, c3) : ClT).1]).length c']) rfl (by simp [Act.eval]) (enters_of Tryd.func32 (by kernel_rfl) rfl) ((Count_any W S A' c' _ w' (hT6.below hbw') hcl (by simp; unfold maxLen; omega)).mono ?_))
                    rintro e wv ⟨rfl, hb⟩
                    exact ⟨by simpa using hL, _, _, _, _, _, _, _, _, _, _, _, _, _, _, _, rfl, (hbw'.trans (hb.mono hsz)), fun h => h0 ((set_other (by decide)).symm.trans h), fun h => h1 ((set_other (by decide)).symm.trans h), fun h => h3 ((set_other (by decide)).symm.trans h), fun h => h4 ((set_other (by decide)).symm.trans h), fun h => h5 ((set_other (by decide)).symm.trans h), fun h => h6 ((set_other (by decide)).symm.trans h), fun _ => rfl, fun h => h10 ((set_other (by decide)).symm.trans h), fun h => h11 ((set_other (by decide)).symm.trans h), fun h => h12 ((set_other (by decide)).symm.trans h), fun h => h13 ((set_other (by decide)).symm.trans h), fun h => h14 ((set_other (by decide)).symm.trans h), fun h h6 => own_grown (kA ((set_other (by decide)).symm.trans h) ((set_other (by decide)).symm.trans h6)) (grown_of_below hb (Nat.le_refl _)), fun h h6 => OneC.grown (kO ((set_other (by decide)).symm.trans h) ((set_other (by decide)).symm.trans h6)) (grown_of_below hb (Nat.le_refl _)), fun _ h6 => (not_bumped (by omega) h6).elim⟩
                  · obtain rfl := h9 (ready_dep hi 9 (by kernel_rfl))
                    refine wpOp_val (Value.tuple #[I (cntN W S (cs ++ [⟨6, 0, 0, rr, mm, g, false⟩])), I (cntE W S (cs ++ [⟨6, 0, 0, rr, mm, g, false⟩]))]) rfl (by rfl) (by go_simp) ?_
                    exact ⟨by simpa using hL, _, _, _, _, _, _, _, _, _, _, _, _, _, _, _, rfl, hbw', fun h => h0 ((set_other (by decide)).symm.trans h), fun h => h1 ((set_other (by decide)).symm.trans h), fun h => h3 ((set_other (by decide)).symm.trans h), fun h => h4 ((set_other (by decide)).symm.trans h), fun h => h5 ((set_other (by decide)).symm.trans h), fun h => h6 ((set_other (by decide)).symm.trans h), fun h => h9 ((set_other (by decide)).symm.trans h), fun _ => rfl, fun h => h11 ((set_other (by decide)).symm.trans h), fun h => h12 ((set_other (by decide)).symm.trans h), fun h => h13 ((set_other (by decide)).symm.trans h), fun h => h14 ((set_other (by decide)).symm.trans h), fun h h6 => kA ((set_other (by decide)).symm.trans h) ((set_other (by decide)).symm.trans h6), fun h h6 => kO ((set_other (by decide)).symm.trans h) ((set_other (by decide)).symm.trans h6), fun h h6 => kB ((set_other (by decide)).symm.trans h) ((set_other (by decide)).symm.trans h6)⟩
                  · obtain rfl := h10 (ready_dep hi 10 (by kernel_rfl))
                    refine wpOp_val (I (cntN W S (cs ++ [⟨6, 0, 0, rr, mm, g, false⟩]))) rfl (by rfl) (by go_simp) ?_
                    exact ⟨by simpa using hL, _, _, _, _, _, _, _, _, _, _, _, _, _, _, _, rfl, hbw', fun h => h0 ((set_other (by decide)).symm.trans h), fun h => h1 ((set_other (by decide)).symm.trans h), fun h => h3 ((set_other (by decide)).symm.trans h), fun h => h4 ((set_other (by decide)).symm.trans h), fun h => h5 ((set_other (by decide)).symm.trans h), fun h => h6 ((set_other (by decide)).symm.trans h), fun h => h9 ((set_other (by decide)).symm.trans h), fun h => h10 ((set_other (by decide)).symm.trans h), fun _ => rfl, fun h => h12 ((set_other (by decide)).symm.trans h), fun h => h13 ((set_other (by decide)).symm.trans h), fun h => h14 ((set_other (by decide)).symm.trans h), fun h h6 => kA ((set_other (by decide)).symm.trans h) ((set_other (by decide)).symm.trans h6), fun h h6 => kO ((set_other (by decide)).symm.trans h) ((set_other (by decide)).symm.trans h6), fun h h6 => kB ((set_other (by decide)).symm.trans h) ((set_other (by decide)).symm.trans h6)⟩
                  · obtain rfl := h10 (ready_dep hi 10 (by kernel_rfl))
                    refine wpOp_val (I (cntE W S (cs ++ [⟨6, 0, 0, rr, mm, g, false⟩]))) rfl (by rfl) (by go_simp) ?_
                    exact ⟨by simpa using hL, _, _, _, _, _, _, _, _, _, _, _, _, _, _, _, rfl, hbw', fun h => h0 ((set_other (by decide)).symm.trans h), fun h => h1 ((set_other (by decide)).symm.trans h), fun h => h3 ((set_other (by decide)).symm.trans h), fun h => h4 ((set_other (by decide)).symm.trans h), fun h => h5 ((set_other (by decide)).symm.trans h), fun h => h6 ((set_other (by decide)).symm.trans h), fun h => h9 ((set_other (by decide)).symm.trans h), fun h => h10 ((set_other (by decide)).symm.trans h), fun h => h11 ((set_other (by decide)).symm.trans h), fun _ => rfl, fun h => h13 ((set_other (by decide)).symm.trans h), fun h => h14 ((set_other (by decide)).symm.trans h), fun h h6 => kA ((set_other (by decide)).symm.trans h) ((set_other (by decide)).symm.trans h6), fun h h6 => kO ((set_other (by decide)).symm.trans h) ((set_other (by decide)).symm.trans h6), fun h h6 => kB ((set_other (by decide)).symm.trans h) ((set_other (by decide)).symm.trans h6)⟩
                  · obtain rfl := h11 (ready_dep hi 11 (by kernel_rfl))
                    refine wpOp_val (I (cntN W S (cs ++ [⟨6, 0, 0, rr, mm, g, false⟩]))) rfl (by rfl) (by go_simp) ?_
                    exact ⟨by simpa using hL, _, _, _, _, _, _, _, _, _, _, _, _, _, _, _, rfl, hbw', fun h => h0 ((set_other (by decide)).symm.trans h), fun h => h1 ((set_other (by decide)).symm.trans h), fun h => h3 ((set_other (by decide)).symm.trans h), fun h => h4 ((set_other (by decide)).symm.trans h), fun h => h5 ((set_other (by decide)).symm.trans h), fun h => h6 ((set_other (by decide)).symm.trans h), fun h => h9 ((set_other (by decide)).symm.trans h), fun h => h10 ((set_other (by decide)).symm.trans h), fun h => h11 ((set_other (by decide)).symm.trans h), fun h => h12 ((set_other (by decide)).symm.trans h), fun _ => rfl, fun h => h14 ((set_other (by decide)).symm.trans h), fun h h6 => kA ((set_other (by decide)).symm.trans h) ((set_other (by decide)).symm.trans h6), fun h h6 => kO ((set_other (by decide)).symm.trans h) ((set_other (by decide)).symm.trans h6), fun h h6 => kB ((set_other (by decide)).symm.trans h) ((set_other (by decide)).symm.trans h6)⟩
                  · obtain rfl := h12 (ready_dep hi 12 (by kernel_rfl))
                    refine wpOp_val (I (cntE W S (cs ++ [⟨6, 0, 0, rr, mm, g, false⟩]))) rfl (by rfl) (by go_simp) ?_
                    exact ⟨by simpa using hL, _, _, _, _, _, _, _, _, _, _, _, _, _, _, _, rfl, hbw', fun h => h0 ((set_other (by decide)).symm.trans h), fun h => h1 ((set_other (by decide)).symm.trans h), fun h => h3 ((set_other (by decide)).symm.trans h), fun h => h4 ((set_other (by decide)).symm.trans h), fun h => h5 ((set_other (by decide)).symm.trans h), fun h => h6 ((set_other (by decide)).symm.trans h), fun h => h9 ((set_other (by decide)).symm.trans h), fun h => h10 ((set_other (by decide)).symm.trans h), fun h => h11 ((set_other (by decide)).symm.trans h), fun h => h12 ((set_other (by decide)).symm.trans h), fun h => h13 ((set_other (by decide)).symm.trans h), fun _ => rfl, fun h h6 => kA ((set_other (by decide)).symm.trans h) ((set_other (by decide)).symm.trans h6), fun h h6 => kO ((set_other (by decide)).symm.trans h) ((set_other (by decide)).symm.trans h6), fun h h6 => kB ((set_other (by decide)).symm.trans h) ((set_other (by decide)).symm.trans h6)⟩
                · rintro L ac w' ⟨hL, u105, u106, u107, u108, u109, u110, u111, u112, u113, u114, u104, u115, u116, u16, u17, rfl, hbw', h0, h1, h3, h4, h5, h6, h9, h10, h11, h12, h13, h14, kA, kO, kB⟩ hr
                  have hall := all_listed hL (by kernel_rfl) hr
                  obtain rfl := h0 (hall 0 (by decide))
                  obtain rfl := h1 (hall 1 (by decide))
                  obtain rfl := h3 (hall 3 (by decide))
                  obtain rfl := h4 (hall 4 (by decide))
                  obtain rfl := h5 (hall 5 (by decide))
                  obtain rfl := h6 (hall 6 (by decide))
                  obtain rfl := h9 (hall 9 (by decide))
                  obtain rfl := h10 (hall 10 (by decide))
                  obtain rfl := h11 (hall 11 (by decide))
                  obtain rfl := h12 (hall 12 (by decide))
                  obtain rfl := h13 (hall 13 (by decide))
                  obtain rfl := h14 (hall 14 (by decide))
                  clear hall hr hL kA kO kB
                  try dsimp only
                  go_wp2_with fail
                  go_meet
                  exact ⟨rfl, rfl, hbw'⟩
              case rest =>
                obtain ⟨rfl, rfl, hb7⟩ := hcut
                obtain ⟨w7, hw7⟩ : ∃ w7 : World, w7 = wc := ⟨_, rfl⟩
                subst hw7
                have hT7 := hT6.below hb7
                have hbb7 : Below w.heap.size w w7 := hbb6.trans (hb7.mono (by omega))
                have s7 := hbb7.size
                rw [HA1.out, HA3.out]
                have g1 : decide ((1 : Int) ≤ (k : Int)) = true := decide_eq_true (by omega)
                have g1' : decide (1 ≤ k) = true := decide_eq_true a4
                have g2 : decide ((k : Int) ≤ (mw : Int)) = true := decide_eq_true (by omega)
                have g2' : decide (k ≤ mw) = true := decide_eq_true a5
                go_wp2_with fail
                refine (works_any w7 hT7).mono ?_
                rintro e w8 ⟨rfl, hb8⟩
                go_wp2
                go_ret
                exact ⟨rfl, hbb7.trans (hb8.mono (by omega))⟩
          · have g1 : (fitE W S cs y != 0) = true := by simpa using hfe
            clear hfe
            go_wp2_with fail
            refine (works_any w5 hT5).mono ?_
            rintro e w6 ⟨rfl, hb6⟩
            go_wp2
            go_ret
            exact ⟨rfl, hbb5.trans (hb6.mono (by omega))⟩
    · rw [lftB_yes hok]
      go_wp2_with fail
      refine (works_any w2 hT2).mono ?_
      rintro e w3 ⟨rfl, hb3⟩
      go_wp2
      go_ret
      exact ⟨rfl, hbb2.trans (hb3.mono (by omega))⟩
end Go.Proofs.YthegmomjfbcabaaDoor
