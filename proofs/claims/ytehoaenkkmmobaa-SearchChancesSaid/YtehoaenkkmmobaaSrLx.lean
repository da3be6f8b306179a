/-
  LAYER 6, CONTRACTS: widths, choices.
-/
import Derived.Test.YtehoaenkkmmobaaSrLw
namespace Go.Proofs.Ytehoaenkkmmobaa
open Go.RowKit Go.Shelf
/-- how many of the first k positions have a distance -/
def cntD (D : List Int) (v : Nat) : Nat → Nat
  | 0 => 0
  | k + 1 => cntD D v k + if nth D k = v then 1 else 0
theorem cntD_le (D : List Int) (v : Nat) : ∀ k, cntD D v k ≤ k := by
  intro k
  induction k with
  | zero => exact Nat.le_refl _
  | succ k ih => rw [cntD]; split <;> omega
def wdL (D : List Int) (N : Nat) : List Int := (List.range N).map fun v => (cntD D v D.length : Int)
/-- N is one more than the greatest -/
def MaxD (D : List Int) (N : Nat) : Prop := (∃ j, j < D.length ∧ nth D j + 1 = N) ∧ ∀ j, j < D.length → nth D j < N
set_option maxRecDepth 100000 in
set_option maxHeartbeats 8000000 in
theorem widths_any (AP AE AD : Option Addr) (nP cP cE cD : Nat) (G : List (List Ed)) (D : List Int) (w : World) (hm : MdR w AE AD G D) (hv : Vld G D) (hbd : ∀ k, -1 ≤ nth D k ∧ nth D k ≤ 1000) :
    Calls Try.prog 49 #[mdlV (.slice AP nP cP) AE AD G.length cE D.length cD] w fun e w' => ∃ A c N, e = .returned (.slice A N c) ∧ MaxD D N ∧ IntsR w' w'.heap.size A (wdL D N) ∧ Below w.heap.size w w' := by
  obtain ⟨w1, hw1, hs1, y0, hb1⟩ := one_box w (.cells #[.slice AP nP cP, .slice AE G.length cE, .slice AD D.length cD] 64)
  have a2 : w1.cell? ⟨w.heap.size, 2, none⟩ = some (.slice AD D.length cD) := cell_of_row w1 _ 2 _ _ _ y0
  have hmx := hv.many
  have hpos := hv.pos
  have hlD := hv.len
  have hmax := max_any AD cD D w1 (hm.call hb1).d (by omega) (by omega)
  have HI := Lib.hid (hm.call hb1).d
  have HB1 := Lib.hid hb1
  have hmk := fun (N : Nat) (h : N ≤ 2000) => run_make_row' (P := Try.prog) 26 3 (.int .i64 0) 8 Try.underlying26 info_int rfl .i64 .i64 N (by omega) (by omega)
  simp only [madeF] at hmk
  have HMK := Lib.hid hmk
  have HBD := Lib.hid hbd
  have hDl : D.length ≤ 300 := by omega
  clear hm hv y0 hb1 hbd hmk hlD
  go_enter Try.func49, Try.ntmps49
  go_upto_region 1 with fail
  rw [← hw1]
  clear hw1
  have hmax' : Calls Try.prog 63 #[.slice AD D.length cD] w1 fun e w' => ∃ N : Nat, e = .returned (I ((N : Int) - 1)) ∧ N ≤ 1001 ∧ MaxD D N ∧ w' = w1 := hmax.mono (by
    rintro e w' ⟨m, rfl, ⟨jm, hj1, hj2⟩, hge, rfl⟩
    have hbm := HBD.out jm
    rw [← hj2] at hbm
    refine ⟨(m + 1).toNat, ?_, by omega, ⟨⟨jm, hj1, by rw [← hj2]; omega⟩, fun j hj => by have := hge j hj; omega⟩, rfl⟩
    rw [show (((m + 1).toNat : Nat) : Int) - 1 = m by omega])
  clear hmax
  go_upto_region 3 with (go_at_call 63; refine hmax'.mono ?_; rintro e w' ⟨N, rfl, hNl, hMX, rfl⟩; have hmk := HMK.out N (by omega); have HMX := Lib.hid hMX; clear hMX)
  obtain ⟨w2, hw2⟩ : ∃ w2, w2 = w'.alloc (.cells (rowF (fun _ => Value.int .i64 0) N) 3) := ⟨_, rfl⟩
  rw [← hw2]
  have hR2 : RowAt w2 (w.heap.size + 1) 3 (intV (fun v => (cntD D v 0 : Int))) N := by
    rw [hw2]
    have h0 : RowAt (w'.alloc (.cells (rowF (fun _ => Value.int .i64 0) N) 3)) (w.heap.size + 1) 3 (fun _ => Value.int .i64 0) N := alloc_obj w' _ _ hs1.symm
    exact h0.congr fun i _ => rfl
  have hB2 : Below w'.heap.size w' w2 := by rw [hw2]; exact (Below.refl _ _).alloc (Nat.le_refl _) _
  have s1 : w.heap.size < w'.heap.size := by omega
  have HR2 := Lib.hid hR2
  clear hw2 hmk hR2
  go_wp2_with fail
  go_loopw [14] (fun i wr => ∃ p : Nat, p ≤ D.length ∧ i = .int .i64 p ∧ Below w'.heap.size w' wr ∧ Hid (RowAt wr (w.heap.size + 1) 3 (intV (fun v => (cntD D v p : Int))) N)) (fun i _ => D.length - (intOf i).toNat)
  case atStart => exact ⟨0, Nat.zero_le _, rfl, hB2, HR2⟩
  case round =>
    obtain ⟨p, hp, rfl, hB, HR⟩ := hrel
    obtain ⟨wo, hwo⟩ : ∃ wo : World, wo = wr := ⟨_, rfl⟩
    rw [← hwo] at hB HR
    rw [← hwo]
    clear hwo
    by_cases hlt : p < D.length
    · obtain ⟨gA, oA, e1, hbA, hcell⟩ := (ints_call hB HI.out).plain (by omega)
      subst e1
      have hcA := hcell p hlt
      have hb := HBD.out p
      have hlN := HMX.out.2 p hlt
      obtain ⟨d, hd⟩ : ∃ d, d = nth D p := ⟨_, rfl⟩
      rw [← hd] at hcA hb hlN
      have HD := Lib.hid hd
      clear hcell hd
      by_cases h1 : d = -1
      · have c1 : (d != -1) = false := by simp [h1]
        have HN := Lib.hid (fun v : Nat => show cntD D v (p + 1) = cntD D v p by rw [cntD, ← HD.out, if_neg (by omega)]; rfl)
        clear h1
        go_wp2_with fail
        go_roundw
        case rel => exact ⟨p + 1, by omega, by go_num, hB, Lib.hid (HR.out.congr fun i _ => by simp only [intV, HN.out])⟩
        case measure => simp [intOf] <;> omega
      · have c1 : (d != -1) = true := by simpa using h1
        obtain ⟨k, hk⟩ : ∃ k : Nat, d = k := ⟨d.toNat, by omega⟩
        subst hk
        have hkN : k < N := by omega
        have hle := cntD_le D k p
        have HN := Lib.hid (fun v : Nat => show cntD D v (p + 1) = cntD D v p + if v = k then 1 else 0 by
          rw [cntD, ← HD.out]
          by_cases e : v = k
          · rw [if_pos (by rw [e]), if_pos e]
          · rw [if_neg (by omega), if_neg e])
        obtain ⟨c, hcc⟩ : ∃ c, c = cntD D k p := ⟨_, rfl⟩
        rw [← hcc] at hle
        have r0 : wo.cell? ⟨w.heap.size + 1, k, none⟩ = some (.int .i64 (c : Int)) := (HR.out.at_ hkN).trans (by simp only [intV]; rw [hcc])
        have f0 : wo.frozen? ⟨w.heap.size + 1, k, none⟩ = false := HR.out.free k
        have s3 := HR.out.lt
        have HCC := Lib.hid hcc
        clear h1 hcc
        go_wp2_with fail
        go_roundw
        case rel => exact ⟨p + 1, by omega, by go_num, hB.grown (grown_setCell _ _ _) hB.size (fun j hj => by injection hj with hj; rw [← hj, hs1]; exact Nat.le_refl _), Lib.hid (intV_set HR.out fun i _ => by
          rw [HN.out]
          by_cases e1 : i = k
          · subst e1; rw [if_pos rfl, if_pos rfl, ← HCC.out]; simp
          · rw [if_neg e1, if_neg e1]; simp)⟩
        case measure => simp [intOf] <;> omega
    · obtain rfl : p = D.length := by omega
      go_wp2_with fail
      go_ret
      exact ⟨_, _, N, rfl, HMX.out, HR.out.ints, HB1.out.trans (hB.mono HB1.out.size)⟩
/-- the positions on the first shortest way -/
def posC (G : List (List Ed)) (D : List Int) : Nat → Nat
  | 0 => 0
  | k + 1 => tgt (eOf G) (posC G D k) (nrE G D (posC G D k))
def chL (G : List (List Ed)) (D : List Int) (K : Nat) : List Nat := (List.range K).map fun k => (gAt G (posC G D k)).length
theorem fold_got (D : List Int) : ∀ (es : List Ed) (l : Int), es.foldl (dstep D) l = l ∨ ∃ k, ∃ h : k < es.length, nth D es[k].to.toNat = es.foldl (dstep D) l := by
  intro es
  induction es with
  | nil => intro l; exact .inl rfl
  | cons a t ih =>
    intro l
    rw [List.foldl_cons]
    rcases ih (dstep D l a) with h | ⟨k, hk, h⟩
    · rw [h]
      unfold dstep
      split
      · exact .inr ⟨0, by simp, rfl⟩
      · exact .inl rfl
    · exact .inr ⟨k + 1, by simpa using hk, by simpa using h⟩
theorem near_ex {G : List (List Ed)} {D : List Int} (hv : Vld G D) (ho : okB G D = true) {p : Nat} (hp : p < G.length) (h0 : 0 < nth D p) : ∃ j, j < (eOf G p).length ∧ nrB G D p j = true := by
  rw [okB, Bool.and_eq_true] at ho
  have hbd := inB_bnd ho.1 hv.many
  rw [List.all_eq_true] at ho
  have hd := ho.2 p (List.mem_range.2 (by rw [hv.len]; exact hp))
  simp only [okP, Bool.or_eq_true, beq_iff_eq] at hd
  have hd' : nth D p = dstE D (gAt G p) := by omega
  have e1 : dbt D (gAt G p) (gAt G p).length = (gAt G p).foldl (dstep D) (-1) := by rw [dbt, List.take_length]
  rw [dstE, e1] at hd'
  split at hd'
  · omega
  · rename_i hne
    rcases fold_got D (gAt G p) (-1) with h | ⟨k, hk, h⟩
    · exact absurd h hne
    · have hk' : k < G[p].length := by rw [← gAt_eq hp]; exact hk
      refine ⟨k, by rw [eOf_len hp]; exact hk', ?_⟩
      have ht : (gAt G p)[k].to.toNat = tgt (eOf G) p k := by
        have := (eOf_tgt hv hp hk').1
        simp only [gAt_eq hp] at *
        rw [this]; rfl
      rw [nrB, ← ht, h, hd', Bool.and_eq_true]
      rw [hd'] at h0
      refine ⟨decide_eq_true h0, ?_⟩
      rw [beq_iff_eq]; omega
theorem posC_ok {G : List (List Ed)} {D : List Int} (hv : Vld G D) (ho : okB G D = true) : ∀ k : Nat, (k : Int) ≤ max (nth D 0) 0 → posC G D k < G.length ∧ nth D (posC G D k) = nth D 0 - k := by
  intro k
  induction k with
  | zero => intro _; exact ⟨hv.pos, by simp [posC]⟩
  | succ k ih =>
    intro hk
    obtain ⟨h1, h2⟩ := ih (by omega)
    have h0 : 0 < nth D (posC G D k) := by omega
    obtain ⟨j, hj1, hj2⟩ := near_ex hv ho h1 h0
    obtain ⟨g1, -, g3, -⟩ := nrF_spec (G := G) (D := D) (p := posC G D k) (eOf G (posC G D k)).length 0 ⟨j, by omega, by omega, hj2⟩
    have hn : nrE G D (posC G D k) < (eOf G (posC G D k)).length := by unfold nrE; omega
    refine ⟨(eOf_tgt hv h1 (by rw [← eOf_len h1]; exact hn)).2, ?_⟩
    have g1' : nrB G D (posC G D k) (nrE G D (posC G D k)) = true := g1
    rw [nrB, Bool.and_eq_true, beq_iff_eq] at g1'
    show nth D (tgt (eOf G) (posC G D k) (nrE G D (posC G D k))) = _
    rw [g1'.2, h2]
    omega
set_option maxRecDepth 100000 in
set_option maxHeartbeats 8000000 in
theorem choices_any (AP AE AD : Option Addr) (nP cP cE cD : Nat) (G : List (List Ed)) (D : List Int) (w : World) (hm : MdR w AE AD G D) (hv : Vld G D) (ho : okB G D = true) (hbd : ∀ k, -1 ≤ nth D k ∧ nth D k ≤ 1000) :
    Calls Try.prog 50 #[mdlV (.slice AP nP cP) AE AD G.length cE D.length cD] w fun e w' => ∃ v, e = .returned v ∧ TrR w' w.heap.size v (chL G D (nth D 0).toNat) ∧ Below w.heap.size w w' := by
  obtain ⟨w1, hw1, hs1, y0, hb1⟩ := one_box w (.cells #[.slice AP nP cP, .slice AE G.length cE, .slice AD D.length cD] 64)
  have hc : ∀ V, Below w1.heap.size w1 V → V.cell? ⟨w.heap.size, 0, none⟩ = some (.slice AP nP cP) ∧ V.cell? ⟨w.heap.size, 1, none⟩ = some (.slice AE G.length cE) ∧ V.cell? ⟨w.heap.size, 2, none⟩ = some (.slice AD D.length cD) ∧ MdR V AE AD G D := fun V hV =>
    ⟨(hV.cell (p := ⟨w.heap.size, 0, none⟩) (by show w.heap.size < _; omega)).trans (cell_of_row w1 _ 0 _ _ _ y0), (hV.cell (p := ⟨w.heap.size, 1, none⟩) (by show w.heap.size < _; omega)).trans (cell_of_row w1 _ 1 _ _ _ y0), (hV.cell (p := ⟨w.heap.size, 2, none⟩) (by show w.heap.size < _; omega)).trans (cell_of_row w1 _ 2 _ _ _ y0), (hm.call hb1).call hV⟩
  have hmx := hv.many
  have hlD := hv.len
  have HF := Lib.hid hv.few
  have HN := Lib.hid (fun V (p : Nat) (hV : Below w1.heap.size w1 V) (hp : p < G.length) (h0 : 0 < nth D p) => nearer_any AP AE AD nP cP cE cD G D p V ((hm.call hb1).call hV) hv hp hbd (near_ex hv ho hp h0))
  have HP := Lib.hid (posC_ok hv ho)
  have HC := Lib.hid hc
  have HB1 := Lib.hid hb1
  have hb0 := hbd 0
  obtain ⟨K, hK⟩ : ∃ K, K = (nth D 0).toNat := ⟨_, rfl⟩
  rw [← hK]
  have HK := Lib.hid hK
  have HK2 := Lib.hid (show (K : Int) = max (nth D 0) 0 by omega)
  have hK3 : K ≤ 1000 := by omega
  have hDl : D.length ≤ 300 := by omega
  have HLD := Lib.hid hlD
  clear hlD hm hv y0 hb1 hbd hc ho hK
  go_enter Try.func50, Try.ntmps50
  go_upto_region 1 with fail
  rw [← hw1]
  clear hw1
  have s1 : w.heap.size < w1.heap.size := by omega
  go_wp2_with fail
  go_loopw [4, 3] (fun i l wr => ∃ k : Nat, k ≤ K ∧ i = .int .i64 (posC G D k : Nat) ∧ TrR wr w1.heap.size l (chL G D k) ∧ Below w1.heap.size w1 wr ∧ wr.heap.size = wr.heap.size) (fun i _ _ => (nth D (intOf i).toNat).toNat)
  case atStart => exact ⟨0, Nat.zero_le _, rfl, .inl ⟨rfl, rfl⟩, Below.refl _ _, rfl⟩
  case round =>
    obtain ⟨k, hk, rfl, hR, hB, -⟩ := hrel
    obtain ⟨wo, hwo⟩ : ∃ wo : World, wo = wr := ⟨_, rfl⟩
    rw [← hwo] at hB hR
    rw [← hwo]
    clear hwo
    obtain ⟨b0, b1, b2, hmo⟩ := HC.out wo hB
    obtain ⟨hp, hd⟩ := HP.out k (by rw [← HK2.out]; omega)
    have hsu : chL G D (k + 1) = chL G D k ++ [(gAt G (posC G D k)).length] := by rw [chL, List.range_succ, List.map_append]; rfl
    have hps : posC G D (k + 1) = tgt (eOf G) (posC G D k) (nrE G D (posC G D k)) := rfl
    have HPS := Lib.hid (show k < K → nth D (posC G D (k + 1)) = nth D 0 - ((k + 1 : Nat) : Int) from fun h => (HP.out (k + 1) (by rw [← HK2.out]; omega)).2)
    obtain ⟨p, hpe⟩ : ∃ p, p = posC G D k := ⟨_, rfl⟩
    rw [← hpe] at hp hd hsu hps ⊢
    obtain ⟨gA, oA, e1, hbA, hcell⟩ := hmo.d.plain (by have := HLD.out; omega)
    subst e1
    have hpD : p < D.length := by have := HLD.out; omega
    have hcA := hcell p hpD
    obtain ⟨g, o, e1, hgl, Ap, cp, hcG, -⟩ := hmo.g.at_ hp
    subst e1
    rw [← gAt_eq hp] at hcG
    have hfp := HF.out p hp
    rw [← gAt_eq hp] at hfp
    obtain ⟨n, hn⟩ : ∃ n, n = (gAt G p).length := ⟨_, rfl⟩
    rw [← hn] at hcG hfp hsu
    obtain ⟨d, hde⟩ : ∃ d, d = nth D p := ⟨_, rfl⟩
    rw [← hde] at hcA hd
    have HDE := Lib.hid hde
    have HPE := Lib.hid hpe
    have HSU := Lib.hid hsu
    have HPT := Lib.hid hps
    have HR := Lib.hid hR
    have HD0 := Lib.hid hd
    clear hmo hcell hn hde hpe hsu hps hR hd
    by_cases h0 : 0 < d
    · have c1 : decide (0 < d) = true := decide_eq_true h0
      have hkK : k < K := by have h1 := HD0.out; have h2 := HK2.out; omega
      have hba : Below w1.heap.size w1 (wo.alloc (.cells #[I n] 3)) := hB.alloc hB.size _
      have hTa : TrR (wo.alloc (.cells #[I n] 3)) w1.heap.size u3 (chL G D k) := HR.out.call ((Below.refl _ _).alloc (Nat.le_refl _) _)
      have hca : (wo.alloc (.cells #[I n] 3)).cell? ⟨wo.heap.size, 0, none⟩ = some (I n) := alloc_cell _ _ _ 0
      have hnn : ∀ V, Below w1.heap.size w1 V → Calls Try.prog 73 #[mdlV (.slice AP nP cP) (some ⟨g, o, none⟩) (some ⟨gA, oA, none⟩) G.length cE D.length cD, I p] V fun e w' => e = .returned (I (posC G D (k + 1) : Nat)) ∧ Below V.heap.size V w' := fun V hV => by
        rw [HPT.out]
        exact HN.out V p hV hp (by rw [← HDE.out]; exact h0)
      have HBA := Lib.hid hba
      have HTA := Lib.hid hTa
      have hlk : (chL G D k).length ≤ 1000000 := by simp [chL]; omega
      have HPO := Lib.hid h0
      clear h0 hba hTa
      go_wp2_with (first
        | (at_builtin; refine wpList_append_t rfl _ _ rfl w1.heap.size u3 (chL G D k) rfl HTA.out wo.heap.size 1 n rfl hca hlk HBA.out.size ?_; intro v' w4 hq4 hg4 ho4; have hb4 : Below w1.heap.size w1 w4 := HBA.out.grown hg4 HBA.out.size (fun j hj => by
            rcases HTA.out with ⟨e, -⟩ | h
            · rw [e] at hj; simp [Value.ownBlock] at hj
            · exact (h.block hj).1)
           ; have hnn4 := hnn w4 hb4; have HQ4 := Lib.hid hq4; clear hq4 hg4 ho4 b0 b1 b2; obtain ⟨b0, b1, b2, -⟩ := HC.out w4 hb4)
        | (go_at_call 73; refine hnn4.mono ?_; rintro e w5 ⟨rfl, hb5⟩))
      go_roundw
      case rel => exact ⟨k + 1, by omega, rfl, by rw [HSU.out]; exact (TrR.call (.inr HQ4.out) hb5), hb4.trans (hb5.mono hb4.size), trivial⟩
      case measure =>
        have h1 := HPS.out hkK
        have h2 := HDE.out
        have h3 := HD0.out
        have h4 := HPO.out
        simp only [intOf, Int.toNat_natCast]
        rw [h1, ← h2, h3]
        omega
    · have c1 : decide (0 < d) = false := decide_eq_false h0
      have hkK : k = K := by have h1 := HD0.out; have h2 := HK2.out; omega
      subst hkK
      clear h0
      go_wp2_with fail
      go_ret
      exact ⟨_, rfl, HR.out.rebase (Nat.le_of_lt s1), HB1.out.trans (hB.mono HB1.out.size)⟩
end Go.Proofs.Ytehoaenkkmmobaa
