/-
  CONTRACT of the document's own answer padlockref01.All: all readings, in order, in new memory.
-/
import Derived.Test.YthegmomjfbcabaaDoorLists
import Derived.Test.YthegmomjfbcabaaDoorTruth
import Derived.Deep.OwnRows
namespace Go.Proofs.YthegmomjfbcabaaDoor
open Go.RowKit
theorem pow_bound {W S : Nat} (hW4 : W ≤ 4) (hS10 : S ≤ 10) : S ^ W ≤ 10000 := Nat.le_trans (Nat.pow_le_pow_left hS10 W) (Nat.pow_le_pow_right (by omega) hW4)
theorem cells_set (p : Nat) (tail : List Int) (d : Int) : ((((List.replicate (p + 1) (0 : Int)) ++ tail).map I).toArray).setIfInBounds p (I d) = ((List.replicate p (0 : Int) ++ d :: tail).map I).toArray := by
  rw [List.replicate_succ']
  apply Array.toList_inj.1
  simp
theorem dig_step (S q rest : Nat) (tail : List Int) : dig S (q + 1) rest ++ tail = dig S q (rest / S) ++ (((rest % S : Nat) : Int) :: tail) := by simp [dig]
theorem wrap_small {d : Nat} (h : d ≤ 10000) : wrap64 (d : Int) = (d : Int) := IntWalk.wrap64_in _ ⟨by omega, by omega⟩
theorem made_zeros (n : Nat) : madeCells #[Value.int .i64 0] n = ((List.replicate n (0 : Int)).map I).toArray := by
  apply Array.ext (by simp [size_madeCells])
  intro i h1 h2
  rw [size_madeCells] at h1
  simp [madeCells, Nat.mod_one]
theorem good_no {W : Nat} {S k : Nat} {cs : List Cl} (hk : k < S ^ W) (h : good W cs (dig S W k) = false) : ((allCodes W S).take (k + 1)).filter (good W cs) = ((allCodes W S).take k).filter (good W cs) := by
  rw [List.take_add_one, List.getElem?_eq_getElem (by rw [allCodes_length]; exact hk), allCodes_at, List.filter_append]; simp [h]
theorem good_yes {W : Nat} {S k : Nat} {cs : List Cl} (hk : k < S ^ W) (h : good W cs (dig S W k) = true) : ((allCodes W S).take (k + 1)).filter (good W cs) = ((allCodes W S).take k).filter (good W cs) ++ [dig S W k] := by
  rw [List.take_add_one, List.getElem?_eq_getElem (by rw [allCodes_length]; exact hk), allCodes_at, List.filter_append]; simp [h]

theorem rfirst_at (W S : Nat) (x : List Int) (hxl : x.length = W) (hL : lockOk W S = true) (cs : List Cl) (hv : cluesB W S cs = true) (hs : Sym x W) (A A2 : Option Addr) (c k2 : Nat) (w : World) (hc : ClsR w w.heap.size A cs) (hl : cs.length ≤ maxLen) (hx : IntsR w w.heap.size A2 x) :
    Calls Tryd.prog 75 #[.slice A cs.length c, .slice A2 W k2] w fun e w' => e = .returned (.int .i64 (brk W x cs 0)) ∧ Below w.heap.size w w' := by
  subst hxl
  exact rfirst_any S x hL cs hv hs A A2 c k2 w hc hl hx

set_option maxRecDepth 100000 in
set_option maxHeartbeats 4000000 in
theorem All_any (W S : Nat) (hW : 1 ≤ W) (hW4 : W ≤ 4) (hS : 2 ≤ S) (hS10 : S ≤ 10) (A : Option Addr) (c : Nat) (cs : List Cl) (hC : cluesB W S cs = true) (w : World) (hx : ClsR w w.heap.size A cs) (hl : cs.length ≤ maxLen) :
    Calls Tryd.prog 77 #[lockV W S, .slice A cs.length c] w fun e w' => ∃ v, e = .returned v ∧ Lists w' w.heap.size v (readings W S cs) ∧ Below w.heap.size w w' := by
  have hpw := pow_bound hW4 hS10
  have hL : lockOk W S = true := by simp [lockOk, wi]; omega
  have HLK := Lib.hid hL
  have HPW := Lib.hid hpw
  clear hL hpw
  go_enter Tryd.func77, Tryd.ntmps77
  go_wp2_with fail
  obtain ⟨w1, hw1⟩ : ∃ w1, w1 = w.alloc (.cells #[I W, I S] 23) := ⟨_, rfl⟩
  try rw [← hw1]
  have l0 : w1.cell? ⟨w.heap.size, 0, none⟩ = some (I W) := by rw [hw1]; exact alloc_cell _ _ _ 0
  have l1 : w1.cell? ⟨w.heap.size, 1, none⟩ = some (I S) := by rw [hw1]; exact alloc_cell _ _ _ 1
  have hb1 : Below w.heap.size w w1 := by rw [hw1]; exact (Below.refl _ _).alloc (Nat.le_refl _) _
  have s1 : w1.heap.size = w.heap.size + 1 := by rw [hw1]; simp
  have hx1 := cls_call hb1 hx
  clear hw1 hx
  go_loop [5, 6] (fun m i => ∃ k p : Nat, k ≤ W ∧ i = .int .i64 k ∧ m = .int .i64 p ∧ Hid (p = S ^ k)) (fun _ i => W - (intOf i).toNat)
  case atStart => exact ⟨0, 1, Nat.zero_le _, rfl, rfl, Lib.hid rfl⟩
  case round =>
    obtain ⟨k, p, hk, rfl, rfl, HP⟩ := hrel
    by_cases hlt : k < W
    · have hb : S ^ (k + 1) ≤ 10000 := Nat.le_trans (Nat.pow_le_pow_right (by omega) hlt) HPW.out
      obtain ⟨q, hq⟩ : ∃ q, q = p * S := ⟨_, rfl⟩
      have hq2 : q = S ^ (k + 1) := by rw [hq, HP.out, Nat.pow_succ]
      have hqb : q ≤ 10000 := by omega
      have hpq : (p : Int) * (S : Int) = (q : Int) := by rw [hq]; simp
      have e1 : wrap64 ((p : Int) * (S : Int)) = (q : Int) := by rw [hpq]; exact IntWalk.wrap64_in _ ⟨by omega, by omega⟩
      have e2 : IntKind.i64.wrap ((p : Int) * (S : Int)) = (q : Int) := (IntWalk.i64_left _).trans e1
      have HQ := Lib.hid hq2
      clear hb hq hq2 hpq
      go_wp2
      go_round
      case rel => exact ⟨k + 1, q, by omega, by go_num, rfl, HQ⟩
      case measure => simp [intOf]; omega
    · obtain rfl : W = k := by omega
      have hp : p ≤ 10000 := by rw [HP.out]; exact HPW.out
      have hmk := run_make_row' (P := Tryd.prog) 24 3 (.int .i64 0) 8 Tryd.underlying24 info_int rfl .i64 .i64 W (by omega) (by omega)
      simp only [made_zeros] at hmk
      go_wp2_with fail
      go_loopw [7, 8] (fun v i wr => ∃ k : Nat, k ≤ p ∧ i = .int .i64 k ∧ Lists wr (w.heap.size + 1) v (((allCodes W S).take k).filter (good W cs)) ∧ Below (w.heap.size + 1) w1 wr) (fun _ i _ => p - (intOf i).toNat)
      case atStart => exact ⟨0, Nat.zero_le _, rfl, Lists.nil _ _, Below.refl _ _⟩
      case round =>
        obtain ⟨k, hk, rfl, hLs, hB⟩ := hrel
        obtain ⟨wo, hwo⟩ : ∃ wo : World, wo = wr := ⟨_, rfl⟩
        subst hwo
        by_cases hlt : k < p
        · have c0 := (hB.cell (p := ⟨w.heap.size, 0, none⟩) (by show w.heap.size < _; omega)).trans l0
          have c1 := (hB.cell (p := ⟨w.heap.size, 1, none⟩) (by show w.heap.size < _; omega)).trans l1
          have hsr : w.heap.size < wo.heap.size := by have := hB.size; omega
          have hkS : k < S ^ W := by rw [← HP.out]; exact hlt
          have HKS := Lib.hid hkS
          have hk1 : k ≤ 10000 := by omega
          clear hkS
          go_wp2_with fail
          obtain ⟨w2, hw2⟩ : ∃ w2, w2 = wo.alloc (.cells (Array.replicate W (I 0)) 3) := ⟨_, rfl⟩
          rw [← hw2]
          rw [show Array.replicate W (I 0) = ((List.replicate W (0 : Int)).map I).toArray by simp] at hw2
          have hg2 : w2.heap[wo.heap.size]? = some (.cells ((List.replicate W (0 : Int)).map I).toArray 3 (0, 0)) := by rw [hw2]; exact alloc_obj _ _ _ rfl
          have hb2 : Below wo.heap.size wo w2 := by rw [hw2]; exact (Below.refl _ _).alloc (Nat.le_refl _) _
          have s2 : wo.heap.size < w2.heap.size := by rw [hw2]; simp
          clear hw2
          go_loopw [10, 11] (fun r i wx => ∃ (q rest : Nat) (tail : List Int), q ≤ W ∧ i = .int .i64 ((q : Int) - 1) ∧ r = .int .i64 (rest : Nat) ∧ Hid (dig S W k = dig S q rest ++ tail) ∧ rest ≤ k ∧ Hid (wx.heap[wo.heap.size]? = some (.cells ((List.replicate q (0 : Int) ++ tail).map I).toArray 3 (0, 0))) ∧ Below wo.heap.size wo wx) (fun _ i _ => (intOf i + 1).toNat)
          case atStart => exact ⟨W, k, [], Nat.le_refl _, rfl, rfl, Lib.hid (by simp), Nat.le_refl _, Lib.hid (by simpa using hg2), hb2⟩
          case round =>
            obtain ⟨q, rest, tail, hq, rfl, rfl, HD, hrest, HG, hBx⟩ := hrel
            clear hg2 hb2 s2
            have c0 := (hBx.cell (p := ⟨w.heap.size, 0, none⟩) hsr).trans c0
            have c1 := (hBx.cell (p := ⟨w.heap.size, 1, none⟩) hsr).trans c1
            have hsx := row_lt' HG.out
            by_cases hq0 : q = 0
            · subst hq0
              have hdt : tail = dig S W k := HD.out.symm
              have htl : tail.length = W := by rw [hdt, dig_length]
              have hLs3 := hLs.below hBx (Nat.le_refl _)
              have hB' : Below w1.heap.size w1 wo := by rw [s1]; exact hB
              have hcl := cls_call hBx (cls_call hB' hx1)
              have hgb : wr.heap[wo.heap.size]? = some (.cells ((dig S W k).map I).toArray 3 (0, 0)) := by have := HG.out; rw [hdt] at this; simpa using this
              have HGB := Lib.hid hgb
              clear hdt htl hgb hB' hLs
              go_wp2_with fail
              refine (rfirst_at W S (dig S W k) (dig_length _ _ _) HLK.out cs hC (dig_Sym S W k (by omega) hS10) A (some ⟨wo.heap.size, 0, none⟩) c W wr hcl hl (ints_block HGB.out)).mono ?_
              rintro e w3 ⟨rfl, hb3⟩
              have hLs4 := hLs3.below hb3 (Nat.le_refl _)
              have hgb := (hb3.block _ hsx).trans HGB.out
              have HGB := Lib.hid hgb
              have hB3 : Below (w.heap.size + 1) w1 w3 := hB.trans ((hBx.trans (hb3.mono hBx.size)).mono (by omega))
              have hs3 : wo.heap.size < w3.heap.size := by have := hb3.size; omega
              clear hgb hb3 hLs3 hcl c0 c1
              cases hgd : good W cs (dig S W k)
              · have hq : ¬ brk W (dig S W k) cs 0 < 0 := by simpa [good] using hgd
                have HQ := Lib.hid (good_no HKS.out hgd)
                clear hgd
                go_wp2_with fail
                go_roundw
                case rel => exact ⟨k + 1, by omega, by go_num, by rw [HQ.out]; exact hLs4, hB3⟩
                case measure => simp [intOf]; omega
              · have hq : brk W (dig S W k) cs 0 < 0 := by simpa [good] using hgd
                have HQ := Lib.hid (good_yes HKS.out hgd)
                clear hgd
                obtain ⟨i0, hi, hz0, hz1, hz2⟩ := info_parts info_sl
                have hn : (((allCodes W S).take k).filter (good W cs)).length ≤ k := Nat.le_trans (List.length_filter_le _ _) (by simp; omega)
                generalize hxs : ((allCodes W S).take k).filter (good W cs) = xss at *
                obtain ⟨vs, hown, hin⟩ := hLs4
                go_wp2_with (at_builtin; refine wpList_append_own _ rfl _ _ 44 rfl (w.heap.size + 1) 24 i0 (.slice none 0 0) 1 24 Tryd.underlying44 hi hz0 hz1 hz2 rfl (by decide) _ _ _ rfl (hown.alloc _) ⟨w3.heap.size, 0, none⟩ 1 1 [.slice (some ⟨wo.heap.size, 0, none⟩) W W] rfl rfl ?c1 ?c2 ?c3 ?c4 ?c5 ?_)
                case c1 =>
                  intro j u hj
                  match j, hj with
                  | 0, hj => simp at hj; subst hj; simp [Addr.add]
                case c2 => intro u hu; simp at hu; subst hu; rfl
                case c3 => unfold maxLen; omega
                case c4 => omega
                case c5 => simp; omega
                · intro v' w4 hown' hgrow _
                  have R := snoc_lists hown hin (own_block HGB.out (by omega) (by rw [dig_length]; unfold maxLen; omega)) (World.grownBy_alloc _ _ _) (by simpa [dig_length] using hown') hgrow
                  have hrow := hown.lt
                  have hB4 : Below (w.heap.size + 1) w1 w4 := (hB3.alloc (by omega) _).grown hgrow (by simp; omega) (fun k hk => (hrow k hk).1)
                  clear hown' hgrow hown hin hrow
                  go_wp2
                  go_roundw
                  case rel => exact ⟨k + 1, by omega, by go_num, by rw [HQ.out]; exact R, hB4⟩
                  case measure => simp [intOf]; omega
            · obtain ⟨q, rfl⟩ : ∃ p, q = p + 1 := ⟨q - 1, by omega⟩
              have hi : ((q + 1 : Nat) : Int) - 1 = (q : Int) := by omega
              rw [hi]
              have hf : wr.frozen? ⟨wo.heap.size, q, none⟩ = false := frozen_of_row HG.out q
              have hcq : wr.cell? ⟨wo.heap.size, q, none⟩ = some (I 0) := (cell_of_row wr _ q _ _ _ HG.out).trans (by simp [List.getElem?_append_left])
              have hrm : ((rest : Int)).tmod (S : Int) = ((rest % S : Nat) : Int) := rfl
              have hdv : ((rest : Int)).tdiv (S : Int) = ((rest / S : Nat) : Int) := rfl
              have hcs : ∀ v, (wr.setCell ⟨wo.heap.size, q, none⟩ v).cell? ⟨w.heap.size, 1, none⟩ = some (I S) := fun v => (World.cell?_of_block (w := wr) (Below.heap_setCell _ _ _ _ (by show w.heap.size ≠ wo.heap.size; omega))).trans c1
              obtain ⟨d, hd⟩ : ∃ d : Nat, d = rest / S := ⟨_, rfl⟩
              have hdq : (rest : Int) / (S : Int) = (d : Int) := by rw [hd]; simp
              have hdr : d ≤ rest := by rw [hd]; exact Nat.div_le_self _ _
              have hdl : d ≤ 10000 := Nat.le_trans hdr (Nat.le_trans hrest hk1)
              have hdv2 : wrap64 ((rest : Int) / (S : Int)) = (d : Int) := by rw [hdq]; exact wrap_small hdl
              have HDD := Lib.hid (show dig S W k = dig S q d ++ (((rest % S : Nat) : Int) :: tail) by rw [HD.out, hd]; exact dig_step _ _ _ _)
              clear hd hdq hdv
              go_wp2_with fail
              go_roundw
              case rel =>
                refine ⟨q, d, ((rest % S : Nat) : Int) :: tail, by omega, rfl, by rw [hdv2], HDD, Nat.le_trans hdr hrest, Lib.hid ?_, hBx.setCell (p := ⟨wo.heap.size, q, none⟩) (Nat.le_refl _) _⟩
                refine (row_set HG.out q _).trans ?_
                rw [← cells_set]
                simp
              case measure => simp [intOf]
        · obtain rfl : p = k := by omega
          have hd : (((allCodes W S).take p).filter (good W cs)) = readings W S cs := by rw [List.take_of_length_le (by rw [allCodes_length]; exact Nat.le_of_eq HP.out.symm)]; rfl
          rw [hd] at hLs
          obtain ⟨A', c', rfl, -⟩ := hLs.sls
          go_wp2
          go_ret
          exact ⟨_, rfl, hLs.rebase (by omega), hb1.trans (hB.mono (by omega))⟩
end Go.Proofs.YthegmomjfbcabaaDoor
