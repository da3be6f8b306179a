/-
  CONTRACTS of the document's own answers: plumbings.
-/
import Derived.Test.YtglkjiimmlobbaaPzPlm
import Derived.Test.YtglkjiimmlobbaaPzRWgs
namespace Go.Proofs.Ytglkjiimmlobbaa
open Go.RowKit Go.Shelf
theorem bst_congr {v u : Nat → Nat} : ∀ k, (∀ i, i ≤ k → v i = u i) → bst v k = bst u k := by
  intro k
  induction k with
  | zero => intro _; rfl
  | succ k ih =>
    intro h
    have e := ih (fun i hi => h i (by omega))
    simp only [bst]
    rw [e, h (k + 1) (Nat.le_refl _), h (bst u k) (Nat.le_trans (bst_le u k) (Nat.le_succ _))]
theorem cheap_snoc (cost : List Int → Nat) (xs : List (List Int)) (x : List Int) (h : 0 < xs.length) : cheap cost (xs ++ [x]) = if cost x < cost (cheap cost xs) then x else cheap cost xs := by
  obtain ⟨n, hn⟩ : ∃ n, xs.length = n + 1 := ⟨xs.length - 1, by omega⟩
  have hg : ∀ i, i ≤ n → (xs ++ [x]).getD i [] = xs.getD i [] := fun i hi => by
    rw [List.getD_eq_getElem?_getD, List.getD_eq_getElem?_getD, List.getElem?_append_left (by omega)]
  have hx : (xs ++ [x]).getD (n + 1) [] = x := by
    rw [List.getD_eq_getElem?_getD, List.getElem?_append_right (by omega), hn]
    simp
  have hc : cheapAt cost (xs ++ [x]) n = cheapAt cost xs n := by
    rw [cheapAt, cheapAt, bst_congr n (fun i hi => by rw [hg i hi])]
    exact hg _ (bst_le _ _)
  have e1 : cheap cost (xs ++ [x]) = cheapAt cost (xs ++ [x]) (n + 1) := by
    rw [cheap, List.length_append, hn]; rfl
  have e2 : cheap cost xs = cheapAt cost xs n := by rw [cheap, hn]; rfl
  rw [e1, e2, cheapAt_succ, hx, hc]
theorem cheap_single (cost : List Int → Nat) (x : List Int) : cheap cost [x] = x := rfl
/-- of the first k turns, those that solve -/
noncomputable def selL (W H N fr tt : Nat) (ps : List Int) (k : Nat) : List (List Int) := ((allT N).take k).filter (solB W H N fr tt ps)
theorem sel_no {W H N fr tt k : Nat} {ps : List Int} (hk : k < 4 ^ N) (h : solB W H N fr tt ps (dig 4 N k) = false) : selL W H N fr tt ps (k + 1) = selL W H N fr tt ps k := by
  rw [selL, List.take_add_one, List.getElem?_eq_getElem (by rw [allT_length]; exact hk), allT_at, List.filter_append]; simp [selL, h]
theorem sel_yes {W H N fr tt k : Nat} {ps : List Int} (hk : k < 4 ^ N) (h : solB W H N fr tt ps (dig 4 N k) = true) : selL W H N fr tt ps (k + 1) = selL W H N fr tt ps k ++ [dig 4 N k] := by
  rw [selL, List.take_add_one, List.getElem?_eq_getElem (by rw [allT_length]; exact hk), allT_at, List.filter_append]; simp [selL, h]
theorem sel_all (W H N fr tt : Nat) (ps : List Int) : selL W H N fr tt ps (4 ^ N) = plbL W H N fr tt ps := by
  rw [selL, List.take_of_length_le (by rw [allT_length]; exact Nat.le_refl _)]; rfl
theorem sel_le (W H N fr tt : Nat) (ps : List Int) (k : Nat) : (selL W H N fr tt ps k).length ≤ k :=
  Nat.le_trans (List.length_filter_le _ _) (by simp; omega)
theorem pow_nine {n : Nat} (h : n ≤ 9) : 4 ^ n ≤ 262144 := Nat.le_trans (Nat.pow_le_pow_right (by omega) h) (by decide)
theorem dig_step (q rest : Nat) (tail : List Int) : dig 4 (q + 1) rest ++ tail = dig 4 q (rest / 4) ++ (((rest % 4 : Nat) : Int) :: tail) := by simp [dig]

set_option maxRecDepth 100000 in
set_option maxHeartbeats 4000000 in
theorem rplumbings_any (W H N fr tt : Nat) (A : Option Addr) (c : Nat) (ps : List Int) (w : World) (hx : IntsR w w.heap.size A ps) (hW : 1 ≤ W) (hW9 : W ≤ 9) (hH : H ≤ 9) (HNW : Hid (N = W * H)) (hN : N ≤ 9) (hfr : fr < N) (htt : tt < N) (HPL : Hid (ps.length = N)) (HP : Hid (Nums 15 ps)) :
    Calls Try.prog 103 #[.agg #[I W, I H, .slice A N c, I fr, I tt]] w fun e w' => ∃ A' c', e = .returned (.tuple #[I ((plbL W H N fr tt ps).length : Nat), .slice A' (cheap sumL (plbL W H N fr tt ps)).length c']) ∧ IntsR w' w'.heap.size A' (cheap sumL (plbL W H N fr tt ps)) ∧ Below w.heap.size w w' := by
  have HPW := Lib.hid (pow_nine hN)
  obtain ⟨wa, ha, sa, ya, ba⟩ := one_box w (.cells #[I W, I H, .slice A N c, I fr, I tt] 43)
  have f2 : wa.cell? ⟨w.heap.size, 2, none⟩ = some (.slice A N c) := cell_of_row wa _ 2 _ _ _ ya
  have YA := Lib.hid ya
  have HX := Lib.hid (ints_call ba hx)
  have hsw : w.heap.size < wa.heap.size := by omega
  clear ya hx sa
  go_enter Try.func103, Try.ntmps103
  go_upto_region 1 with fail
  rw [← ha]
  clear ha
  go_wp2_with fail
  go_loop [4, 5] (fun m i => ∃ k p : Nat, k ≤ N ∧ i = .int .i64 k ∧ m = .int .i64 p ∧ Hid (p = 4 ^ k)) (fun _ i => N - (intOf i).toNat)
  case atStart => exact ⟨0, 1, Nat.zero_le _, rfl, rfl, Lib.hid rfl⟩
  case round =>
    obtain ⟨k, p, hk, rfl, rfl, HPP⟩ := hrel
    by_cases hlt : k < N
    · have hb : 4 ^ (k + 1) ≤ 262144 := pow_nine (by omega)
      obtain ⟨q, hq⟩ : ∃ q, q = p * 4 := ⟨_, rfl⟩
      have hq2 : q = 4 ^ (k + 1) := by rw [hq, HPP.out, Nat.pow_succ]
      have hqb : q ≤ 262144 := by omega
      have hpq : (p : Int) * 4 = (q : Int) := by rw [hq]; simp
      have e1 : wrap64 ((p : Int) * 4) = (q : Int) := by rw [hpq]; exact IntWalk.wrap64_in _ ⟨by omega, by omega⟩
      have e2 : IntKind.i64.wrap ((p : Int) * 4) = (q : Int) := (IntWalk.i64_left _).trans e1
      have HQ := Lib.hid hq2
      clear hb hq hq2 hpq
      go_wp2
      go_round
      case rel => exact ⟨k + 1, q, by omega, by go_num, by first | rfl | simp [e1, e2], HQ⟩
      case measure => simp [intOf]; omega
    · obtain rfl : N = k := by omega
      have hp : p ≤ 262144 := by rw [HPP.out]; exact HPW.out
      have hmk := run_make_row' (P := Try.prog) 29 3 (.int .i64 0) 8 Try.underlying29 info_int rfl .i64 .i64 N (by omega) (by omega)
      simp only [made_zeros] at hmk
      go_wp2_with fail
      go_loopw [6, 7, 8, 9] (fun cn ls bs i wr => ∃ (k m l cb : Nat) (Ab : Option Addr) (b : List Int), k ≤ p ∧ i = .int .i64 k ∧ cn = .int .i64 m ∧ ls = .int .i64 l ∧ bs = .slice Ab b.length cb ∧ IntsR wr wr.heap.size Ab b ∧ Hid (m = (selL W H N fr tt ps k).length ∧ b = cheap sumL (selL W H N fr tt ps k) ∧ (0 < m → l = sumL b)) ∧ l ≤ 1000 ∧ m ≤ k ∧ Below wa.heap.size wa wr) (fun _ _ _ i _ => p - (intOf i).toNat)
      case atStart => exact ⟨0, 0, 0, 0, none, [], Nat.zero_le _, rfl, rfl, rfl, rfl, IntsR.nil, Lib.hid ⟨rfl, rfl, fun h => absurd h (by decide)⟩, by omega, Nat.le_refl _, Below.refl _ _⟩
      case round =>
        obtain ⟨k, m, l, cb, Ab, b, hk, rfl, rfl, rfl, rfl, hib, HS, hl, hmk2, hB⟩ := hrel
        obtain ⟨wo, hwo⟩ : ∃ wo : World, wo = wr := ⟨_, rfl⟩
        subst hwo
        have yo := (hB.block _ hsw).trans YA.out
        have f0 : wo.cell? ⟨w.heap.size, 0, none⟩ = some (I W) := cell_of_row wo _ 0 _ _ _ yo
        have f1 : wo.cell? ⟨w.heap.size, 1, none⟩ = some (I H) := cell_of_row wo _ 1 _ _ _ yo
        have f2 : wo.cell? ⟨w.heap.size, 2, none⟩ = some (.slice A N c) := cell_of_row wo _ 2 _ _ _ yo
        have hso : w.heap.size < wo.heap.size := by have := hB.size; omega
        have YO := Lib.hid yo
        clear yo
        by_cases hlt : k < p
        · have hkS : k < 4 ^ N := by rw [← HPP.out]; exact hlt
          have HKS := Lib.hid hkS
          have hk1 : k ≤ 262144 := by omega
          have hxo := ints_call hB HX.out
          clear hkS
          go_upto_region 12 with fail
          obtain ⟨w2, hw2⟩ : ∃ w2, w2 = wo.alloc (.cells (Array.replicate N (I 0)) 3) := ⟨_, rfl⟩
          rw [← hw2]
          rw [show Array.replicate N (I 0) = ((List.replicate N (0 : Int)).map I).toArray by simp] at hw2
          have hg2 : w2.heap[wo.heap.size]? = some (.cells ((List.replicate N (0 : Int)).map I).toArray 3 (0, 0)) := by rw [hw2]; exact alloc_obj _ _ _ rfl
          have hb2 : Below wo.heap.size wo w2 := by rw [hw2]; exact (Below.refl _ _).alloc (Nat.le_refl _) _
          have s2 : wo.heap.size < w2.heap.size := by rw [hw2]; simp
          clear hw2 f0 f1 f2
          go_wp2_with fail
          go_loopw [11, 12, 13] (fun r sm i wx => ∃ (q rest s : Nat) (tail : List Int), q ≤ N ∧ i = .int .i64 ((q : Int) - 1) ∧ r = .int .i64 (rest : Nat) ∧ sm = .int .i64 (s : Nat) ∧ Hid (dig 4 N k = dig 4 q rest ++ tail) ∧ Hid (s = sumL tail) ∧ s ≤ 3 * (N - q) ∧ rest ≤ k ∧ Hid (wx.heap[wo.heap.size]? = some (.cells ((List.replicate q (0 : Int) ++ tail).map I).toArray 3 (0, 0))) ∧ Below wo.heap.size wo wx) (fun _ _ i _ => (intOf i + 1).toNat)
          case atStart => exact ⟨N, k, 0, [], Nat.le_refl _, rfl, rfl, rfl, Lib.hid (by simp), Lib.hid rfl, Nat.zero_le _, Nat.le_refl _, Lib.hid (by simpa using hg2), hb2⟩
          case round =>
            obtain ⟨q, rest, s, tail, hq, rfl, rfl, rfl, HD, HSU, hs9, hrest, HG, hBx⟩ := hrel
            clear hg2 hb2 s2
            have hsx := row_lt' HG.out
            by_cases hq0 : q = 0
            · subst hq0
              have hdt : tail = dig 4 N k := HD.out.symm
              have hgb : wr.heap[wo.heap.size]? = some (.cells ((dig 4 N k).map I).toArray 3 (0, 0)) := by have := HG.out; rw [hdt] at this; simpa using this
              have HSUM := Lib.hid (show s = sumL (dig 4 N k) by rw [HSU.out, hdt])
              have yr := (hBx.block _ hso).trans YO.out
              have f0 : wr.cell? ⟨w.heap.size, 0, none⟩ = some (I W) := cell_of_row wr _ 0 _ _ _ yr
              have f1 : wr.cell? ⟨w.heap.size, 1, none⟩ = some (I H) := cell_of_row wr _ 1 _ _ _ yr
              have f2 : wr.cell? ⟨w.heap.size, 2, none⟩ = some (.slice A N c) := cell_of_row wr _ 2 _ _ _ yr
              have f3 : wr.cell? ⟨w.heap.size, 3, none⟩ = some (I fr) := cell_of_row wr _ 3 _ _ _ yr
              have f4 : wr.cell? ⟨w.heap.size, 4, none⟩ = some (I tt) := cell_of_row wr _ 4 _ _ _ yr
              have hcall := rflows_any W H fr N tt A (some ⟨wo.heap.size, 0, none⟩) c N ps (dig 4 N k) wr hW hW9 hH HNW.out hN hfr HPL.out (dig_length _ _ _) HP.out (turns_nums N k) (ints_call hBx hxo) (ints_block hgb)
              have HGD := Lib.hid (show solB W H N fr tt ps (dig 4 N k) = (wetC W H (opF ps (dig 4 N k) N) fr tt && (lkC W H (opF ps (dig 4 N k) N) fr == 0)) from rfl)
              have hlk := lkC_le W H (opF ps (dig 4 N k) N) fr
              generalize wetC W H (opF ps (dig 4 N k) N) fr = T at hcall HGD
              generalize lkC W H (opF ps (dig 4 N k) N) fr = lk at hcall HGD hlk
              have HGB := Lib.hid hgb
              have YR := Lib.hid yr
              have hsw2 : w.heap.size < wr.heap.size := by have := hBx.size; omega
              clear hdt hgb yr HD HG HSU hxo
              go_wp2_with fail
              refine hcall.mono ?_
              rintro e w3 ⟨g, rfl, hR, hb3⟩
              have t1 : w3.cell? ⟨g, tt, none⟩ = some (.bool (T tt)) := hR.at_ htt
              have f4 : w3.cell? ⟨w.heap.size, 4, none⟩ = some (I tt) := cell_of_row w3 _ 4 _ _ _ ((hb3.block _ hsw2).trans YR.out)
              have hBw : Below wo.heap.size wo w3 := hBx.trans (hb3.mono hBx.size)
              have hB3 : Below wa.heap.size wa w3 := hB.trans (hBw.mono hB.size)
              have hib3 := ints_call hBw hib
              have HIT := Lib.hid (ints_block ((hb3.block _ hsx).trans HGB.out))
              clear hcall f0 f1 f2 f3 hR hb3 hBx hBw hib hsx hB
              cases hT : T tt
              · have HQ := Lib.hid (sel_no (ps := ps) HKS.out (show solB W H N fr tt ps (dig 4 N k) = false by rw [HGD.out, hT]; rfl))
                rw [hT] at t1
                clear hT HGD
                go_wp2_with fail
                go_roundw
                case rel => exact ⟨k + 1, m, l, cb, Ab, b, by omega, by go_num, rfl, rfl, rfl, hib3, Lib.hid (by rw [HQ.out]; exact HS.out), hl, by omega, hB3⟩
                case measure => simp [intOf]; omega
              · rw [hT] at t1
                by_cases hl0 : lk = 0
                · have HQ := Lib.hid (sel_yes (ps := ps) HKS.out (show solB W H N fr tt ps (dig 4 N k) = true by rw [HGD.out, hT, hl0]; rfl))
                  subst hl0
                  clear hT HGD
                  have hsb : s ≤ 1000 := by omega
                  by_cases hm0 : m = 0
                  · subst hm0
                    have hnil : selL W H N fr tt ps k = [] := List.eq_nil_of_length_eq_zero HS.out.1.symm
                    have HN : Hid (0 + 1 = (selL W H N fr tt ps (k + 1)).length ∧ dig 4 N k = cheap sumL (selL W H N fr tt ps (k + 1)) ∧ (0 < 0 + 1 → s = sumL (dig 4 N k))) := Lib.hid (by
                      rw [HQ.out, hnil]; exact ⟨rfl, rfl, fun _ => HSUM.out⟩)
                    clear hnil
                    go_wp2_with fail
                    go_roundw
                    case rel => exact ⟨k + 1, 0 + 1, s, N, some ⟨wo.heap.size, 0, none⟩, dig 4 N k, by omega, by go_num, by first | rfl | go_num, rfl, by rw [dig_length], HIT.out, HN, hsb, by omega, hB3⟩
                    case measure => simp [intOf]; omega
                  · have hm1 : 0 < m := by omega
                    have g1 : ((m : Int) + 1 == 1) = false := by simp; omega
                    have g2 : (m + 1 == 1) = false := by simp; omega
                    have hlen : 0 < (selL W H N fr tt ps k).length := by rw [← HS.out.1]; exact hm1
                    have HLS := Lib.hid (HS.out.2.2 hm1)
                    by_cases hlt2 : s < l
                    · have g3 : decide ((s : Int) < (l : Int)) = true := by simpa using hlt2
                      have g4 : decide (s < l) = true := by simpa using hlt2
                      have HN : Hid (m + 1 = (selL W H N fr tt ps (k + 1)).length ∧ dig 4 N k = cheap sumL (selL W H N fr tt ps (k + 1)) ∧ (0 < m + 1 → s = sumL (dig 4 N k))) := Lib.hid (by
                        rw [HQ.out, cheap_snoc _ _ _ hlen, ← HS.out.2.1, ← HLS.out, ← HSUM.out, if_pos hlt2, List.length_append, ← HS.out.1]; exact ⟨rfl, rfl, fun _ => rfl⟩)
                      clear hlen hm0 hlt2
                      go_wp2_with fail
                      go_roundw
                      case rel => exact ⟨k + 1, m + 1, s, N, some ⟨wo.heap.size, 0, none⟩, dig 4 N k, by omega, by go_num, by go_num, rfl, by rw [dig_length], HIT.out, HN, hsb, by omega, hB3⟩
                      case measure => simp [intOf]; omega
                    · have g3 : decide ((s : Int) < (l : Int)) = false := by simpa using hlt2
                      have g4 : decide (s < l) = false := by simpa using hlt2
                      have HN : Hid (m + 1 = (selL W H N fr tt ps (k + 1)).length ∧ b = cheap sumL (selL W H N fr tt ps (k + 1)) ∧ (0 < m + 1 → l = sumL b)) := Lib.hid (by
                        rw [HQ.out, cheap_snoc _ _ _ hlen, ← HS.out.2.1, ← HLS.out, ← HSUM.out, if_neg hlt2, List.length_append, ← HS.out.1]; exact ⟨rfl, rfl, fun _ => rfl⟩)
                      clear hlen hm0 hlt2
                      go_wp2_with fail
                      go_roundw
                      case rel => exact ⟨k + 1, m + 1, l, cb, Ab, b, by omega, by go_num, by go_num, rfl, rfl, hib3, HN, hl, by omega, hB3⟩
                      case measure => simp [intOf]; omega
                · have HQ := Lib.hid (sel_no (ps := ps) HKS.out (show solB W H N fr tt ps (dig 4 N k) = false by rw [HGD.out, hT, show (lk == 0) = false by simpa using hl0]; rfl))
                  have g1 : decide ((0 : Int) < (lk : Int)) = true := by simp; omega
                  have g2 : decide (0 < lk) = true := by simp; omega
                  clear hT HGD hl0
                  go_wp2_with fail
                  go_roundw
                  case rel => exact ⟨k + 1, m, l, cb, Ab, b, by omega, by go_num, rfl, rfl, rfl, hib3, Lib.hid (by rw [HQ.out]; exact HS.out), hl, by omega, hB3⟩
                  case measure => simp [intOf]; omega
            · obtain ⟨q, rfl⟩ : ∃ p, q = p + 1 := ⟨q - 1, by omega⟩
              have hi : ((q + 1 : Nat) : Int) - 1 = (q : Int) := by omega
              rw [hi]
              have hf : wr.frozen? ⟨wo.heap.size, q, none⟩ = false := frozen_of_row HG.out q
              have hcq : wr.cell? ⟨wo.heap.size, q, none⟩ = some (I 0) := (cell_of_row wr _ q _ _ _ HG.out).trans (by simp [List.getElem?_append_left])
              have hrm : ((rest : Int)).tmod 4 = ((rest % 4 : Nat) : Int) := rfl
              have hdv : ((rest : Int)).tdiv 4 = ((rest / 4 : Nat) : Int) := rfl
              obtain ⟨m2, hm⟩ : ∃ m : Nat, m = rest % 4 := ⟨_, rfl⟩
              obtain ⟨d, hd⟩ : ∃ d : Nat, d = rest / 4 := ⟨_, rfl⟩
              have hm2 : m2 < 4 := by omega
              have hdl : d ≤ rest := by rw [hd]; exact Nat.div_le_self _ _
              have hdm : (rest : Int) % 4 = (m2 : Int) := by rw [hm]; simp
              have hdq : (rest : Int) / 4 = (d : Int) := by rw [hd]; simp
              rw [← hm] at hrm
              rw [← hd] at hdv
              have HDD := Lib.hid (show dig 4 N k = dig 4 q d ++ ((m2 : Int) :: tail) by rw [HD.out, hd, hm]; exact dig_step _ _ _)
              have HSD : Hid (s + m2 = sumL ((m2 : Int) :: tail)) := Lib.hid (by simp only [sumL]; rw [← HSU.out]; simp; omega)
              have hg3 : Hid ((wr.setCell ⟨wo.heap.size, q, none⟩ (I m2)).heap[wo.heap.size]? = some (.cells ((List.replicate q (0 : Int) ++ ((m2 : Int) :: tail)).map I).toArray 3 (0, 0))) := Lib.hid (by
                refine (row_set HG.out q _).trans ?_
                rw [← cells_set])
              clear hd hm
              go_upto_region 17 with fail
              obtain ⟨X, hX⟩ : ∃ X, X = wr.setCell ⟨wo.heap.size, q, none⟩ (I m2) := ⟨_, rfl⟩
              have hBX : Below wo.heap.size wo X := by rw [hX]; exact hBx.setCell (p := ⟨wo.heap.size, q, none⟩) (Nat.le_refl _) _
              rw [← hX] at hg3
              rw [← hX]
              have hc3 : X.cell? ⟨wo.heap.size, q, none⟩ = some (I m2) := (cell_of_row X _ q _ _ _ hg3.out).trans (by simp)
              have hs3 : (s : Int) ≤ 1000 := by omega
              clear hX hf hcq
              go_wp2_with fail
              go_roundw
              case rel => exact ⟨q, d, s + m2, (m2 : Int) :: tail, by omega, by go_num, by first | rfl | simp [hdq, hdv], by go_num, HDD, HSD, by omega, Nat.le_trans hdl hrest, hg3, hBX⟩
              case measure => simp [intOf]
        · obtain rfl : p = k := by omega
          have hS := HS.out
          rw [show selL W H N fr tt ps p = plbL W H N fr tt ps by rw [HPP.out]; exact sel_all _ _ _ _ _ _] at hS
          obtain ⟨rfl, rfl, -⟩ := hS
          have HI := Lib.hid hib
          clear hib HS f0 f1 f2
          go_wp2
          go_ret2
          exact ⟨Ab, cb, rfl, HI.out, ba.trans (hB.mono ba.size)⟩
end Go.Proofs.Ytglkjiimmlobbaa
