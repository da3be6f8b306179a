/-
  CONTRACTS of the reference: weighings, Weigh, Weighings.
-/
import Derived.Test.YtglkjiimmlobbaaPzRWgh
namespace Go.Proofs.Ytglkjiimmlobbaa
open Go.RowKit Go.Shelf
def sdD (q rest : Nat) : List Int := (dig 3 q rest).map (fun d => d - 1)
theorem sdD_step (q rest : Nat) (tail : List Int) : sdD (q + 1) rest ++ tail = sdD q (rest / 3) ++ ((((rest % 3 : Nat) : Int) - 1) :: tail) := by simp [sdD, dig]
theorem wgs_no {n k : Nat} {p : List Int → Bool} (hk : k < 3 ^ n) (h : p (sidesOf n k) = false) : ((allS n).take (k + 1)).filter p = ((allS n).take k).filter p := by
  rw [List.take_add_one, List.getElem?_eq_getElem (by rw [allS_length]; exact hk), allS_at, List.filter_append]; simp [h]
theorem wgs_yes {n k : Nat} {p : List Int → Bool} (hk : k < 3 ^ n) (h : p (sidesOf n k) = true) : ((allS n).take (k + 1)).filter p = ((allS n).take k).filter p ++ [sidesOf n k] := by
  rw [List.take_add_one, List.getElem?_eq_getElem (by rw [allS_length]; exact hk), allS_at, List.filter_append]; simp [h]
theorem wrap_small {d : Nat} (h : d ≤ 1000000) : wrap64 (d : Int) = (d : Int) := IntWalk.wrap64_in _ ⟨by omega, by omega⟩
theorem pow_ten {n : Nat} (h : n ≤ 10) : 3 ^ n ≤ 60000 := Nat.le_trans (Nat.pow_le_pow_right (by omega) h) (by decide)

theorem rtips_w (A1 A2 : Option Addr) (c1 c2 W k : Nat) (ws : List Int) (load : Int) (hW : W = ws.length) (w : World) (hx : IntsR w w.heap.size A1 ws) (hy : IntsR w w.heap.size A2 (sidesOf W k)) (hl : ws.length ≤ 10)
    (hw : ∀ i, i < ws.length → 1 ≤ nth ws i ∧ nth ws i ≤ 10000) (h0 : 0 ≤ load) (h1 : load ≤ 10000) :
    Calls Try.prog 87 #[.slice A1 W c1, .slice A2 W c2, I load] w fun e w' => e = .returned (I (tipL ws (sidesOf W k) load)) ∧ Below w.heap.size w w' := by
  subst hW
  exact rtips_any A1 A2 c1 c2 ws.length ws (sidesOf ws.length k) load w hx hy hl (sidesOf_length _ _) (sidesOf_length _ _) hw (fun i hi => sidesOf_bounds hi) h0 h1

set_option maxRecDepth 100000 in
set_option maxHeartbeats 4000000 in
theorem rweighings_any (A : Option Addr) (c : Nat) (ws : List Int) (load : Int) (w : World) (hx : IntsR w w.heap.size A ws) (hl : ws.length ≤ 10) (hw : ∀ i, i < ws.length → 1 ≤ nth ws i ∧ nth ws i ≤ 10000) (h0 : 0 ≤ load) (h1 : load ≤ 10000) :
    Calls Try.prog 91 #[.slice A ws.length c, I load] w fun e w' => ∃ v, e = .returned v ∧ Lists w' w.heap.size v (wgs ws load) ∧ Below w.heap.size w w' := by
  have HW := Lib.hid hw
  have HPW := Lib.hid (pow_ten hl)
  obtain ⟨W, hWn⟩ : ∃ W, W = ws.length := ⟨_, rfl⟩
  have HWN := Lib.hid hWn
  have hW10 : W ≤ 10 := by omega
  clear hw
  go_enter Try.func91, Try.ntmps91
  rw [← hWn]
  clear hWn
  go_wp2_with fail
  go_loop [5, 6] (fun m i => ∃ k p : Nat, k ≤ W ∧ i = .int .i64 k ∧ m = .int .i64 p ∧ Hid (p = 3 ^ k)) (fun _ i => W - (intOf i).toNat)
  case atStart => exact ⟨0, 1, Nat.zero_le _, rfl, rfl, Lib.hid rfl⟩
  case round =>
    obtain ⟨k, p, hk, rfl, rfl, HP⟩ := hrel
    by_cases hlt : k < W
    · have hb : 3 ^ (k + 1) ≤ 60000 := pow_ten (by omega)
      obtain ⟨q, hq⟩ : ∃ q, q = p * 3 := ⟨_, rfl⟩
      have hq2 : q = 3 ^ (k + 1) := by rw [hq, HP.out, Nat.pow_succ]
      have hqb : q ≤ 60000 := by omega
      have hpq : (p : Int) * 3 = (q : Int) := by rw [hq]; simp
      have e1 : wrap64 ((p : Int) * 3) = (q : Int) := by rw [hpq]; exact IntWalk.wrap64_in _ ⟨by omega, by omega⟩
      have e2 : IntKind.i64.wrap ((p : Int) * 3) = (q : Int) := (IntWalk.i64_left _).trans e1
      have HQ := Lib.hid hq2
      clear hb hq hq2 hpq
      go_wp2
      go_round
      case rel => exact ⟨k + 1, q, by omega, by go_num, by first | rfl | simp [e1, e2], HQ⟩
      case measure => simp [intOf]; omega
    · obtain rfl : W = k := by omega
      have hp : p ≤ 60000 := by rw [HP.out]; exact pow_ten hW10
      have hmk := run_make_row' (P := Try.prog) 29 3 (.int .i64 0) 8 Try.underlying29 info_int rfl .i64 .i64 W (by omega) (by omega)
      simp only [made_zeros] at hmk
      go_wp2_with fail
      go_loopw [7, 8] (fun v i wr => ∃ k : Nat, k ≤ p ∧ i = .int .i64 k ∧ Lists wr w.heap.size v (((allS W).take k).filter (tip0 ws load)) ∧ Below w.heap.size w wr) (fun _ i _ => p - (intOf i).toNat)
      case atStart => exact ⟨0, Nat.zero_le _, rfl, Lists.nil _ _, Below.refl _ _⟩
      case round =>
        obtain ⟨k, hk, rfl, hLs, hB⟩ := hrel
        obtain ⟨wo, hwo⟩ : ∃ wo : World, wo = wr := ⟨_, rfl⟩
        subst hwo
        by_cases hlt : k < p
        · have hsr : w.heap.size ≤ wo.heap.size := hB.size
          have hkS : k < 3 ^ W := by rw [← HP.out]; exact hlt
          have HKS := Lib.hid hkS
          have hk1 : k ≤ 60000 := by omega
          clear hkS
          go_wp2_with fail
          obtain ⟨w2, hw2⟩ : ∃ w2, w2 = wo.alloc (.cells (Array.replicate W (I 0)) 3) := ⟨_, rfl⟩
          rw [← hw2]
          rw [show Array.replicate W (I 0) = ((List.replicate W (0 : Int)).map I).toArray by simp] at hw2
          have hg2 : w2.heap[wo.heap.size]? = some (.cells ((List.replicate W (0 : Int)).map I).toArray 3 (0, 0)) := by rw [hw2]; exact alloc_obj _ _ _ rfl
          have hb2 : Below wo.heap.size wo w2 := by rw [hw2]; exact (Below.refl _ _).alloc (Nat.le_refl _) _
          have s2 : wo.heap.size < w2.heap.size := by rw [hw2]; simp
          clear hw2
          go_loopw [10, 11] (fun r i wx => ∃ (q rest : Nat) (tail : List Int), q ≤ W ∧ i = .int .i64 ((q : Int) - 1) ∧ r = .int .i64 (rest : Nat) ∧ Hid (sidesOf W k = sdD q rest ++ tail) ∧ rest ≤ k ∧ Hid (wx.heap[wo.heap.size]? = some (.cells ((List.replicate q (0 : Int) ++ tail).map I).toArray 3 (0, 0))) ∧ Below wo.heap.size wo wx) (fun _ i _ => (intOf i + 1).toNat)
          case atStart => exact ⟨W, k, [], Nat.le_refl _, rfl, rfl, Lib.hid (by simp [sdD, sidesOf]), Nat.le_refl _, Lib.hid (by simpa using hg2), hb2⟩
          case round =>
            obtain ⟨q, rest, tail, hq, rfl, rfl, HD, hrest, HG, hBx⟩ := hrel
            clear hg2 hb2 s2
            have hsx := row_lt' HG.out
            by_cases hq0 : q = 0
            · subst hq0
              have hdt : tail = sidesOf W k := HD.out.symm
              have htl : tail.length = W := by rw [hdt, sidesOf_length]
              have hLs3 := hLs.below hBx (Nat.le_refl _)
              have hcl := ints_call hBx (ints_call hB hx)
              have hgb : wr.heap[wo.heap.size]? = some (.cells ((sidesOf W k).map I).toArray 3 (0, 0)) := by have := HG.out; rw [hdt] at this; simpa using this
              have HGB := Lib.hid hgb
              clear hdt htl hgb hLs
              go_wp2_with fail
              refine (rtips_w A (some ⟨wo.heap.size, 0, none⟩) c W W k ws load HWN.out wr hcl (ints_block HGB.out) hl HW.out h0 h1).mono ?_
              rintro e w3 ⟨rfl, hb3⟩
              have hLs4 := hLs3.below hb3 (Nat.le_refl _)
              have hgb := (hb3.block _ hsx).trans HGB.out
              have HGB := Lib.hid hgb
              have hB3 : Below w.heap.size w w3 := hB.trans ((hBx.trans (hb3.mono hBx.size)).mono hsr)
              have hs3 : wo.heap.size < w3.heap.size := by have := hb3.size; omega
              clear hgb hb3 hLs3 hcl
              cases hgd : tip0 ws load (sidesOf W k)
              · have hq : (tipL ws (sidesOf W k) load == 0) = false := hgd
                have HQ := Lib.hid (wgs_no HKS.out hgd)
                clear hgd
                go_wp2_with fail
                go_roundw
                case rel => exact ⟨k + 1, by omega, by go_num, by rw [HQ.out]; exact hLs4, hB3⟩
                case measure => simp [intOf]; omega
              · have hq : (tipL ws (sidesOf W k) load == 0) = true := hgd
                have HQ := Lib.hid (wgs_yes HKS.out hgd)
                clear hgd
                obtain ⟨i0, hi, hz0, hz1, hz2⟩ := info_parts info_sl
                have hn : (((allS W).take k).filter (tip0 ws load)).length ≤ k := Nat.le_trans (List.length_filter_le _ _) (by simp; omega)
                generalize hxs : ((allS W).take k).filter (tip0 ws load) = xss at *
                obtain ⟨vs, hown, hin⟩ := hLs4
                go_wp2_with (at_builtin; refine wpList_append_own _ rfl _ _ 57 rfl w.heap.size 29 i0 (.slice none 0 0) 1 24 Try.underlying57 hi hz0 hz1 hz2 rfl (by decide) _ _ _ rfl (hown.alloc _) ⟨w3.heap.size, 0, none⟩ 1 1 [.slice (some ⟨wo.heap.size, 0, none⟩) W W] rfl rfl ?c1 ?c2 ?c3 ?c4 ?c5 ?_)
                case c1 =>
                  intro j u hj
                  match j, hj with
                  | 0, hj => simp at hj; subst hj; simp [Addr.add]
                case c2 => intro u hu; simp at hu; subst hu; rfl
                case c3 => unfold maxLen; omega
                case c4 => omega
                case c5 => simp; omega
                · intro v' w4 hown' hgrow _
                  have R := snoc_lists hown hin (own_block HGB.out hsr (by rw [sidesOf_length]; unfold maxLen; omega)) (World.grownBy_alloc _ _ _) (by simpa [sidesOf_length] using hown') hgrow
                  have hrow := hown.lt
                  have hB4 : Below w.heap.size w w4 := (hB3.alloc (by omega) _).grown hgrow (by simp; omega) (fun k hk => (hrow k hk).1)
                  clear hown' hgrow hown hin hrow
                  go_wp2
                  go_roundw
                  case rel => exact ⟨k + 1, by omega, by go_num, by rw [HQ.out]; exact R, hB4⟩
                  case measure => simp [intOf]; omega
            · obtain ⟨q, rfl⟩ : ∃ p, q = p + 1 := ⟨q - 1, by omega⟩
              have hi : ((q + 1 : Nat) : Int) - 1 = (q : Int) := by omega
              rw [hi]
              have hf : wr.frozen? ⟨wo.heap.size, q, none⟩ = false := frozen_of_row HG.out q
              have hcq : wr.cell? ⟨wo.heap.size, q, none⟩ = some (I 0) := (cell_of_row wr _ q _ _ _ HG.out).trans (by simp [List.getElem?_append_left])
              have hrm : ((rest : Int)).tmod 3 = ((rest % 3 : Nat) : Int) := rfl
              have hdv : ((rest : Int)).tdiv 3 = ((rest / 3 : Nat) : Int) := rfl
              obtain ⟨m, hm⟩ : ∃ m : Nat, m = rest % 3 := ⟨_, rfl⟩
              obtain ⟨d, hd⟩ : ∃ d : Nat, d = rest / 3 := ⟨_, rfl⟩
              have hm2 : m < 3 := by omega
              have hdl : d ≤ rest := by rw [hd]; exact Nat.div_le_self _ _
              have hdm : (rest : Int) % 3 = (m : Int) := by rw [hm]; simp
              have hdq : (rest : Int) / 3 = (d : Int) := by rw [hd]; simp
              rw [← hm] at hrm
              rw [← hd] at hdv
              have hds : wrap64 ((m : Int) - 1) = (m : Int) - 1 := IntWalk.wrap64_in _ ⟨by omega, by omega⟩
              have hds2 : IntKind.i64.wrap ((m : Int) - 1) = (m : Int) - 1 := (IntWalk.i64_left _).trans hds
              have HDD := Lib.hid (show sidesOf W k = sdD q d ++ (((m : Int) - 1) :: tail) by rw [HD.out, hd, hm]; exact sdD_step _ _ _)
              clear hd hm
              go_wp2_with fail
              go_roundw
              case rel =>
                refine ⟨q, d, ((m : Int) - 1) :: tail, by omega, rfl, by first | rfl | simp [hdq, hdv], HDD, Nat.le_trans hdl hrest, Lib.hid ?_, hBx.setCell (p := ⟨wo.heap.size, q, none⟩) (Nat.le_refl _) _⟩
                refine (row_set HG.out q _).trans ?_
                rw [← cells_set]
              case measure => simp [intOf]
        · obtain rfl : p = k := by omega
          have hd : (((allS W).take p).filter (tip0 ws load)) = wgs ws load := by
            rw [List.take_of_length_le (by rw [allS_length]; exact Nat.le_of_eq HP.out.symm), wgs_eq, HWN.out]
          rw [hd] at hLs
          obtain ⟨A', c', rfl, -⟩ := hLs.sls
          go_wp2
          go_ret
          exact ⟨_, rfl, hLs, hB⟩

set_option maxRecDepth 100000 in
set_option maxHeartbeats 2000000 in
theorem rWeighings_any (A : Option Addr) (c : Nat) (ws : List Int) (load : Int) (w : World) (hx : IntsR w w.heap.size A ws) (hl : ws.length ≤ maxLen) :
    Calls Try.prog 33 #[.slice A ws.length c, I load] w fun e w' => e = .returned (.tuple #[I (wghN ws load : Nat), I (wghF ws load)]) ∧ Below w.heap.size w w' := by
  go_enter Try.func33, Try.ntmps33
  go_wp2_with fail
  refine (weighable_any A c ws load w hx hl).mono ?_
  rintro e w' ⟨rfl, rfl⟩
  cases hv : balB ws load
  · have HE := Lib.hid (show wghF ws load = 1 ∧ wghN ws load = 0 by constructor <;> simp [wghF, wghN, hv])
    clear hv
    go_wp2
    go_ret2
    exact ⟨by rw [HE.out.1, HE.out.2]; rfl, Below.refl _ _⟩
  · have HE := Lib.hid (show wghF ws load = 0 ∧ wghN ws load = (wgs ws load).length by constructor <;> simp [wghF, wghN, hv])
    obtain ⟨b1, b2, b3, b4⟩ := bal_facts hv
    have B2 := Lib.hid b2
    clear hv b2
    go_wp2_with fail
    refine (rweighings_any A c ws load w' hx b1 B2.out b3 b4).mono ?_
    rintro e w2 ⟨v, rfl, hLs, hb2⟩
    obtain ⟨A2, c2, rfl, -, -⟩ := hLs.sls
    clear hLs
    go_wp2
    go_ret2
    exact ⟨by rw [HE.out.1, HE.out.2]; rfl, hb2⟩

theorem bst_one (v : Nat → Nat) (i : Nat) : bst v (i + 1 - 1) = if v i < v (bst v (i - 1)) then i else bst v (i - 1) := by
  cases i with
  | zero => simp [bst]
  | succ i => simp [bst]
theorem usedL_nat (a b : Nat) : decide ((a : Int) < (b : Int)) = decide (a < b) := by simp

set_option maxRecDepth 100000 in
set_option maxHeartbeats 2000000 in
theorem rWeigh_any (A : Option Addr) (c : Nat) (ws : List Int) (load : Int) (w : World) (hx : IntsR w w.heap.size A ws) (hl : ws.length ≤ maxLen) :
    Calls Try.prog 31 #[.slice A ws.length c, I load] w fun e w' => ∃ A' c', e = .returned (.tuple #[.slice A' (wghL ws load).length c', I (wghE ws load)]) ∧ IntsR w' w'.heap.size A' (wghL ws load) ∧ (wghL ws load).length ≤ maxLen ∧ Below w.heap.size w w' := by
  go_enter Try.func31, Try.ntmps31
  go_wp2_with fail
  refine (weighable_any A c ws load w hx hl).mono ?_
  rintro e w' ⟨rfl, rfl⟩
  cases hv : balB ws load
  · have HE := Lib.hid (show wghE ws load = 1 ∧ wghL ws load = [] by constructor <;> simp [wghE, wghL, hv])
    clear hv
    go_wp2
    go_ret2
    exact ⟨none, 0, by rw [HE.out.1, HE.out.2]; rfl, by rw [HE.out.2]; exact IntsR.nil, by rw [HE.out.2]; exact Nat.zero_le _, Below.refl _ _⟩
  · have HE := Lib.hid (show (wghE ws load = if 0 < (wgs ws load).length then 0 else 3) ∧ wghL ws load = cheap usedL (wgs ws load) by constructor <;> simp [wghE, wghL, hv])
    obtain ⟨b1, b2, b3, b4⟩ := bal_facts hv
    have B2 := Lib.hid b2
    clear hv b2
    go_wp2_with fail
    refine (rweighings_any A c ws load w' hx b1 B2.out b3 b4).mono ?_
    rintro e w2 ⟨v, rfl, hLs, hb2⟩
    obtain ⟨A2, c2, rfl, hsl, hml, -⟩ := hLs.sls
    have hmx := wgs_most (load := load) b1
    have heach : ∀ x ∈ wgs ws load, x.length ≤ 10 := fun x h => by rw [wgs_each x h]; exact b1
    obtain ⟨R, hR⟩ : ∃ R, R = wgs ws load := ⟨_, rfl⟩
    rw [← hR] at hsl hml hmx heach ⊢
    have HR := Lib.hid hR
    have HEA := Lib.hid heach
    clear hLs hR heach
    by_cases h0 : R.length = 0
    · have g0 : ((R.length : Int) == 0) = true := by simp [h0]
      have HE2 := Lib.hid (show wghE ws load = 3 ∧ wghL ws load = [] by
        rw [HE.out.1, HE.out.2, ← HR.out, List.eq_nil_of_length_eq_zero h0]
        exact ⟨rfl, rfl⟩)
      clear h0
      go_wp2
      go_ret2
      exact ⟨none, 0, by rw [HE2.out.1, HE2.out.2]; rfl, by rw [HE2.out.2]; exact IntsR.nil, by rw [HE2.out.2]; exact Nat.zero_le _, hb2⟩
    · have g0 : ((R.length : Int) == 0) = false := by simp; exact fun h => h0 (by simp [h])
      have hpos : 0 < R.length := by omega
      have HE2 := Lib.hid (show wghE ws load = 0 ∧ wghL ws load = cheap usedL R by rw [HE.out.1, HE.out.2, ← HR.out, if_pos hpos]; exact ⟨rfl, rfl⟩)
      obtain ⟨ad, rfl, hab, hcs⟩ := hsl hpos
      obtain ⟨v, hv⟩ : ∃ v : Nat → Nat, v = fun i => usedL (R.getD i []) := ⟨_, rfl⟩
      have hcs' : ∀ j, j < R.length → ∃ x A' c', x = R.getD j [] ∧ v j = usedL x ∧ w2.cell? (ad.add j) = some (.slice A' x.length c') ∧ IntsR w2 w2.heap.size A' x ∧ x.length ≤ maxLen := fun j hj => by
        obtain ⟨A', c', h1, h2, h3⟩ := hcs j hj
        exact ⟨R[j], A', c', by simp [List.getD_eq_getElem?_getD, hj], by rw [hv]; simp [List.getD_eq_getElem?_getD, hj], h1, h2, h3⟩
      have hcheap : cheap usedL R = R.getD (bst v (R.length - 1)) [] := by rw [hv]; rfl
      obtain ⟨x0, A0, c0, hx0, hv0, q0, i0, m0⟩ := hcs' 0 hpos
      have q0' : w2.cell? ad = some (.slice A0 x0.length c0) := by rw [← q0]; simp [Addr.add]
      have HCS := Lib.hid hcs'
      have HCH := Lib.hid hcheap
      have HV := Lib.hid hv
      have HX0 := Lib.hid hx0
      clear hcs hcs' hcheap hv hx0 hsl h0 hv0
      go_wp2_with fail
      go_loop [7, 8] (fun b i => ∃ k : Nat, k ≤ R.length ∧ i = .int .i64 k ∧ ∃ (y : List Int) (Ay : Option Addr) (cy : Nat), b = .slice Ay y.length cy ∧ Hid (y = R.getD (bst v (k - 1)) []) ∧ IntsR w2 w2.heap.size Ay y ∧ y.length ≤ maxLen) (fun _ i => R.length - (intOf i).toNat)
      case atStart => exact ⟨0, Nat.zero_le _, rfl, x0, A0, c0, rfl, HX0, i0, m0⟩
      case round =>
        obtain ⟨k, hk, rfl, y, Ay, cy, rfl, HY, iy, my⟩ := hrel
        clear q0 q0' i0
        by_cases hlt : k < R.length
        · obtain ⟨x, A1, c1, hx1, hvx, q1, i1, m1⟩ := HCS.out k hlt
          have HB := Lib.hid (bst_one v k)
          have hvy : v (bst v (k - 1)) = usedL y := by rw [HY.out, HV.out]
          rw [hvx, hvy] at HB
          have HX := Lib.hid hx1
          clear hvx hvy hx1
          by_cases hc : usedL x < usedL y
          · have g1 : decide ((usedL x : Int) < (usedL y : Int)) = true := by simpa using hc
            have g2 : decide (usedL x < usedL y) = true := by simpa using hc
            have HB2 := Lib.hid (show bst v (k + 1 - 1) = k by rw [HB.out, if_pos hc])
            clear hc HB
            go_wp2_with (first
              | (go_at_call 56; ((with_reducible refine (rUsed_any A1 c1 x w2 i1 m1).mono ?_); rintro e w' ⟨rfl, rfl⟩))
              | (go_at_call 56; ((with_reducible refine (rUsed_any Ay cy y _ iy my).mono ?_); rintro e w' ⟨rfl, rfl⟩)))
            go_round
            case rel => exact ⟨k + 1, by omega, by go_num, x, A1, c1, rfl, Lib.hid (by rw [HB2.out]; exact HX.out), i1, m1⟩
            case measure => simp [intOf]; omega
          · have g1 : decide ((usedL x : Int) < (usedL y : Int)) = false := by simpa using hc
            have g2 : decide (usedL x < usedL y) = false := by simpa using hc
            have HB2 := Lib.hid (show bst v (k + 1 - 1) = bst v (k - 1) by rw [HB.out, if_neg hc])
            clear hc HB
            go_wp2_with (first
              | (go_at_call 56; ((with_reducible refine (rUsed_any A1 c1 x w2 i1 m1).mono ?_); rintro e w' ⟨rfl, rfl⟩))
              | (go_at_call 56; ((with_reducible refine (rUsed_any Ay cy y _ iy my).mono ?_); rintro e w' ⟨rfl, rfl⟩)))
            go_round
            case rel => exact ⟨k + 1, by omega, by go_num, y, Ay, cy, rfl, Lib.hid (by rw [HB2.out]; exact HY.out), iy, my⟩
            case measure => simp [intOf]; omega
        · obtain rfl : k = R.length := by omega
          have HZ := Lib.hid (show y = wghL ws load by rw [HE2.out.2, HCH.out]; exact HY.out)
          go_wp2
          go_ret2
          exact ⟨Ay, ⟨cy, by rw [HE2.out.1, ← HZ.out]; rfl⟩, by rw [← HZ.out]; exact iy, by rw [← HZ.out]; exact my, hb2⟩
end Go.Proofs.Ytglkjiimmlobbaa
