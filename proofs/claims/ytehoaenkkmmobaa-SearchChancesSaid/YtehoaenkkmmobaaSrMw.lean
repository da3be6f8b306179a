/-
  LAYER 6, CONTRACT: move. (Written by gen/gen_srmw.py over srmw_head.txt.)
-/
import Derived.Test.YtehoaenkkmmobaaSrMv
namespace Go.Proofs.Ytehoaenkkmmobaa
open Go.RowKit Go.Shelf
section
variable {P : Program} {ops : Array Oper} {Q : Exit → Act → World → Prop}
/-- what has come up has what it waits for -/
def Clo (ops : Array Oper) (L : Array Bool) : Prop := ∀ i, L.getD i false = true → ∀ j, ((ops[i]?).map fun o => o.after.any fun e => Region.binds .any e && e.on == j).getD false = true → L.getD j false = true
theorem Clo.set {L : Array Bool} (h : Clo ops L) {i : Nat} (hi : i ∈ Region.ready .any ops L) : Clo ops (L.setIfInBounds i true) := fun k hk j hj => by
  by_cases e : i = k
  · subst e
    exact set_keep (ready_dep hi j hj)
  · exact set_keep (h k ((set_other e).symm.trans hk) j hj)
theorem wp_region_cl {id : Nat} {a : Act} {w : World} (hm : P.follows .mixedOrders = true) (J : Array Bool → Act → World → Prop)
    (h0 : J (Array.replicate ops.size false) a w.drew)
    (hs : ∀ (i : Nat) (L : Array Bool) (a : Act) (w : World), Clo ops L → J L a w → i ∈ Region.ready .any ops L → wpOp P ops Q i (J (L.setIfInBounds i true)) a w)
    (hd : ∀ (L : Array Bool) (a : Act) (w : World), J L a w → Region.ready .any ops L = [] → Q .normal a w) : (Code.region id ops true).wp P Q a w :=
  wp_region_inv hm (fun L a w => Clo ops L ∧ J L a w) ⟨fun i hi => absurd hi (by rcases Nat.lt_or_ge i ops.size with h | h <;> simp [h, Nat.not_lt.2]), h0⟩
    (fun i L a w h hi => wpOp_mono (fun a' w' h' => ⟨h.1.set hi, h'⟩) (hs i L a w h.1 h.2 hi))
    (fun L a w h hr => hd L a w h.2 hr)
end
set_option maxRecDepth 100000 in
set_option maxHeartbeats 8000000 in
theorem move_any (AP AE AD AW : Option Addr) (nP cP cE cD cW : Nat) (G : List (List Ed)) (D : List Int) (W : Nat → Nat) (P T : Nat) (w : World) (hm : MdR w AE AD G D) (hv : Vld G D) (hw : IntsR w w.heap.size AW ((List.range G.length).map fun p => (W p : Int)))
    (hd : Div G D P) (hW : tot G.length W = T) (hT : T * P ≤ 1000000000000000) (hP : P ≤ 1000000000000000) :
    Calls Try.prog 78 #[mdlV (.slice AP nP cP) AE AD G.length cE D.length cD, .slice AW G.length cW, I P] w fun e w' => ∃ A c, e = .returned (.slice A G.length c) ∧ IntsR w' w'.heap.size A ((List.range G.length).map fun p => (mvP G D W P G.length p : Int)) ∧ Below w.heap.size w w' := by
  obtain ⟨w1, hw1, hs1, y0, hb1⟩ := one_box w (.cells #[.slice AP nP cP, .slice AE G.length cE, .slice AD D.length cD] 64)
  have hc : ∀ V, Below w1.heap.size w1 V → V.cell? ⟨w.heap.size, 0, none⟩ = some (.slice AP nP cP) ∧ V.cell? ⟨w.heap.size, 1, none⟩ = some (.slice AE G.length cE) ∧ V.cell? ⟨w.heap.size, 2, none⟩ = some (.slice AD D.length cD) ∧ MdR V AE AD G D ∧ IntsR V V.heap.size AW ((List.range G.length).map fun p => (W p : Int)) := fun V hV =>
    ⟨(hV.cell (p := ⟨w.heap.size, 0, none⟩) (by show w.heap.size < _; omega)).trans (cell_of_row w1 _ 0 _ _ _ y0), (hV.cell (p := ⟨w.heap.size, 1, none⟩) (by show w.heap.size < _; omega)).trans (cell_of_row w1 _ 1 _ _ _ y0), (hV.cell (p := ⟨w.heap.size, 2, none⟩) (by show w.heap.size < _; omega)).trans (cell_of_row w1 _ 2 _ _ _ y0), (hm.call hb1).call hV, ints_call hV (ints_call hb1 hw)⟩
  obtain ⟨a0, a1, a2, -⟩ := hc w1 (Below.refl _ _)
  have hmx := hv.many
  have hpos := hv.pos
  have HF := Lib.hid hv.few
  have HV := Lib.hid hv
  have HD := Lib.hid hd
  have HBE := Lib.hid (fun p (hp : p < G.length) (hs : stay (eOf G) (dOf D) p = false) k (hk : k < nE G p) c (hc : c < G.length) => mvE_bnd hv hd hW hT hp hs hk c hc)
  have HBP := Lib.hid (fun p (hp : p < G.length) c (hc : c < G.length) => mvP_bnd hv hd hW hT hp c hc)
  have HS := Lib.hid (fun V (p : Nat) (hV : Below w1.heap.size w1 V) (hp : p < G.length) => stays_any (.slice AP nP cP) AE AD cE cD G D p V ((hm.call hb1).call hV) hv hp)
  have HC := Lib.hid hc
  have HB1 := Lib.hid hb1
  have HM1 := Lib.hid (hm.call hb1)
  have hmk := run_make_row' (P := Try.prog) 26 3 (.int .i64 0) 8 Try.underlying26 info_int rfl .i64 .i64 G.length (by omega) (by omega)
  simp only [madeF] at hmk
  clear hm hv y0 hb1 hc hw hd hW hT
  go_enter Try.func78, Try.ntmps78
  go_upto_region 1 with fail
  rw [← hw1]
  clear hw1
  go_upto_region 2 with fail
  obtain ⟨w2, hw2⟩ : ∃ w2, w2 = w1.alloc (.cells (rowF (fun _ => Value.int .i64 0) G.length) 3) := ⟨_, rfl⟩
  rw [← hw2]
  have hR2 : RowAt w2 (w.heap.size + 1) 3 (intV (fun c => (mvP G D W P 0 c : Int))) G.length := by
    rw [hw2]
    have h0 : RowAt (w1.alloc (.cells (rowF (fun _ => Value.int .i64 0) G.length) 3)) (w.heap.size + 1) 3 (fun _ => Value.int .i64 0) G.length := alloc_obj w1 _ _ hs1.symm
    exact h0.congr fun i _ => rfl
  have hB2 : Below w1.heap.size w1 w2 := by rw [hw2]; exact (Below.refl _ _).alloc (Nat.le_refl _) _
  have s1 : w.heap.size < w1.heap.size := by omega
  have HR2 := Lib.hid hR2
  clear hw2 hmk hR2 a0 a1 a2
  go_wp2_with fail
  go_loopw [17] (fun i wr => ∃ p : Nat, p ≤ G.length ∧ i = .int .i64 p ∧ Below w1.heap.size w1 wr ∧ Hid (RowAt wr (w.heap.size + 1) 3 (intV (fun c => (mvP G D W P p c : Int))) G.length)) (fun i _ => G.length - (intOf i).toNat)
  case atStart => exact ⟨0, Nat.zero_le _, rfl, hB2, HR2⟩
  case round =>
    obtain ⟨p, hp, rfl, hB, HR⟩ := hrel
    obtain ⟨wo, hwo⟩ : ∃ wo : World, wo = wr := ⟨_, rfl⟩
    rw [← hwo] at hB HR
    rw [← hwo]
    clear hwo
    by_cases hlt : p < G.length
    · obtain ⟨b0, b1, b2, hmo, hwi⟩ := HC.out wo hB
      have hfp := HF.out p hlt
      rw [← gAt_eq hlt] at hfp
      have hst := HS.out wo p hB hlt
      obtain ⟨adw, eW, hbw, hcW⟩ := hwi.at_ (k := p) (by simpa using hlt)
      rw [nth_lt (by simpa using hlt)] at hcW
      simp only [List.getElem_map, List.getElem_range] at hcW
      obtain rfl := eW
      obtain ⟨x, hx⟩ : ∃ x, x = W p := ⟨_, rfl⟩
      rw [← hx] at hcW
      have hbp := HBP.out p hlt p hlt
      rw [← hx] at hbp
      have HX := Lib.hid hx
      have HBo := Lib.hid hB
      cases hs : stay (eOf G) (dOf D) p with
      | true =>
        rw [hs] at hst
        have HN := Lib.hid (show mvP G D W P (p + 1) = addN (mvP G D W P p) p (x * P) by rw [mvP_stay hs, hx])
        obtain ⟨c0, hc0⟩ : ∃ c0, c0 = mvP G D W P p p := ⟨_, rfl⟩
        rw [← hc0] at hbp
        have HC0 := Lib.hid hc0
        have q2 : (x : Int) * (P : Int) = ((x * P : Nat) : Int) := (Int.natCast_mul _ _).symm
        obtain ⟨X, hX⟩ : ∃ X, X = x * P := ⟨_, rfl⟩
        rw [← hX] at q2 hbp HN
        clear hs hx hX hmo hwi hc0
        go_wp2_with (go_at_call 80; refine hst.mono ?_; rintro e w3 ⟨rfl, hb3⟩; have HR3 := Lib.hid (HR.out.below hb3 HR.out.lt); have r0 : w3.cell? ⟨w.heap.size + 1, p, none⟩ = some (.int .i64 (c0 : Int)) := (HR3.out.at_ hlt).trans (by simp only [intV]; rw [HC0.out]); have f0 : w3.frozen? ⟨w.heap.size + 1, p, none⟩ = false := HR3.out.free p; have s3 := HR3.out.lt)
        go_roundw
        case rel => exact ⟨p + 1, by omega, by go_num, (HBo.out.trans (hb3.mono HBo.out.size)).grown (grown_setCell _ _ _) (by have := HBo.out.size; have := hb3.size; omega) (fun j hj => by injection hj with hj; rw [← hj, hs1]; exact Nat.le_refl _), Lib.hid (intV_set HR3.out fun i _ => by
          rw [HN.out, addN]
          by_cases e1 : i = p
          · subst e1; rw [if_pos rfl, if_pos rfl, HC0.out]; simp
          · rw [if_neg e1, if_neg e1])⟩
        case measure => simp [intOf] <;> omega
      | false =>
        rw [hs] at hst
        have hn0 := stay_ne hs
        have hdv := HD.out p hlt hs
        have hbe := fun k hk c hc => HBE.out p hlt hs k hk c hc
        rw [← hx] at hbe
        have HEQ := Lib.hid (mvP_go (W := W) (P := P) hs)
        rw [← hx] at HEQ
        obtain ⟨g, o, e1, hgl, Ap, cp, hcG, hcE⟩ := HM1.out.g.at_ hlt
        subst e1
        have htg : ∀ k (hk : k < (gAt G p).length), ((gAt G p)[k]).to = (tgt (eOf G) p k : Nat) ∧ tgt (eOf G) p k < G.length := by
          rw [gAt_eq hlt]
          exact fun k hk => eOf_tgt HV.out hlt hk
        rw [← gAt_eq hlt] at hcG hcE
        have hnl : nE G p = (gAt G p).length := rfl
        rw [hnl] at hn0 hdv hbe HEQ
        have HG := Lib.hid (fun V (hV : Below w1.heap.size w1 V) => (hV.cell (p := ⟨g, o + p, none⟩) hgl).trans hcG)
        have HE := Lib.hid (fun V (hV : Below w1.heap.size w1 V) => edr_call hV hcE)
        have HTG := Lib.hid htg
        obtain ⟨es, hes⟩ : ∃ es, es = gAt G p := ⟨_, rfl⟩
        rw [← hes] at hn0 hdv hbe HEQ HG HE HTG hfp
        obtain ⟨n, hn⟩ : ∃ n, n = es.length := ⟨_, rfl⟩
        rw [← hn] at hn0 hdv hbe HEQ HG hfp
        have q1 : (P : Int).tdiv (n : Int) = ((P / n : Nat) : Int) := Int.ofNat_tdiv _ _
        have hqb : P / n ≤ P := Nat.div_le_self _ _
        obtain ⟨q, hq⟩ : ∃ q, q = P / n := ⟨_, rfl⟩
        rw [← hq] at q1 hqb hbe HEQ
        have q2 : (x : Int) * (q : Int) = ((x * q : Nat) : Int) := (Int.natCast_mul _ _).symm
        obtain ⟨y, hy⟩ : ∃ y, y = x * q := ⟨_, rfl⟩
        rw [← hy] at q2 hbe HEQ
        have hyb : y ≤ 1000000000000000 := Nat.le_trans (Nat.le_add_left _ _) (hbe 0 hn0 p hlt)
        have c2 : ((n : Int) == 0) = false := beq_eq_false_iff_ne.2 (by omega)
        have c3 : decide ((n : Int) = 0) = false := decide_eq_false (by omega)
        have c4 : ¬ (n : Int) = 0 := by omega
        have HBB := Lib.hid hbe
        have HNE := Lib.hid hn
        obtain ⟨F0, hF0⟩ : ∃ F0, F0 = mvP G D W P p := ⟨_, rfl⟩
        rw [← hF0] at HR HEQ HBB
        clear hs hx hbp hmo hwi hn hq hy hbe hdv hes htg hcG hcE hnl hF0
        go_upto_region 7 with (go_at_call 80; refine hst.mono ?_; rintro e w3 ⟨rfl, hb3⟩; have hB3 := HBo.out.trans (hb3.mono HBo.out.size); have HR3 := Lib.hid (HR.out.below hb3 HR.out.lt); obtain ⟨d0, d1, d2, -, -⟩ := HC.out w3 hB3; have dG := HG.out w3 hB3)
        go_wp2_with fail
        go_loopw [41] (fun i ws => ∃ k : Nat, k ≤ n ∧ i = .int .i64 k ∧ Below w1.heap.size w1 ws ∧ Hid (RowAt ws (w.heap.size + 1) 3 (intV (fun c => (mvE G p y F0 k c : Int))) G.length)) (fun i _ => n - (intOf i).toNat)
        case atStart => exact ⟨0, Nat.zero_le _, rfl, hB3, HR3⟩
        case round =>
          obtain ⟨k, hk, rfl, hB', HR'⟩ := hrel
          obtain ⟨wi', hwi⟩ : ∃ wi' : World, wi' = wr := ⟨_, rfl⟩
          rw [← hwi] at hB' HR'
          rw [← hwi]
          clear hwi
          by_cases hkl : k < n
          · have hkl' : k < es.length := by rw [← HNE.out]; exact hkl
            obtain ⟨b, qo, rfl, hbl, e0, e1, e2, e3⟩ := (HE.out wi' hB').at_ hkl'
            obtain ⟨ht1, ht2⟩ := HTG.out k hkl'
            obtain ⟨t, ht⟩ : ∃ t, t = tgt (eOf G) p k := ⟨_, rfl⟩
            rw [← ht] at ht1 ht2
            obtain ⟨z, hz⟩ : ∃ z, z = es[k] := ⟨_, rfl⟩
            rw [← hz] at e0 e1 e2 e3 ht1
            rw [ht1] at e3
            obtain ⟨w4, hw4, hs4, y4, hb4⟩ := one_box wi' (.cells (edC z) 58)
            have z3 : w4.cell? ⟨wi'.heap.size, 3, none⟩ = some (I t) := by rw [← ht1]; exact cell_of_row w4 _ 3 _ _ _ y4
            have W4 : w4 = wi'.alloc (.cells #[I z.pl, I z.kd, I z.nm, I t] 58) := by rw [hw4, edC, ht1]
            have hB4 := hB'.trans (hb4.mono hB'.size)
            obtain ⟨d0, d1, d2, -, -⟩ := HC.out w4 hB4
            have dG := HG.out w4 hB4
            have hR4 := HR'.out.below hb4 HR'.out.lt
            have hbc := HBB.out k hkl t ht2
            obtain ⟨c, hc⟩ : ∃ c, c = mvE G p y F0 k t := ⟨_, rfl⟩
            rw [← hc] at hbc
            have r0 : w4.cell? ⟨w.heap.size + 1, t, none⟩ = some (.int .i64 (c : Int)) := (hR4.at_ ht2).trans (by simp only [intV]; rw [hc])
            have s4 : wi'.heap.size < w4.heap.size := by omega
            have s5 := hR4.lt
            have s6 : w.heap.size < w4.heap.size := by omega
            have s7 : g < w4.heap.size := Nat.lt_of_lt_of_le hgl hB4.size
            have wq : IntKind.i64.wrap (q : Int) = (q : Int) := (IntWalk.i64_left _).trans (IntWalk.wrap64_in _ ⟨by omega, by omega⟩)
            have wy : IntKind.i64.wrap (y : Int) = (y : Int) := (IntWalk.i64_left _).trans (IntWalk.wrap64_in _ ⟨by omega, by omega⟩)
            have wc : IntKind.i64.wrap ((c : Int) + (y : Int)) = (c : Int) + (y : Int) := (IntWalk.i64_left _).trans (IntWalk.wrap64_in _ ⟨by omega, by omega⟩)
            have n0 : ¬ n = 0 := by omega
            have HR4 := Lib.hid hR4
            have HB4 := Lib.hid hB4
            have HT := Lib.hid ht
            have HCC := Lib.hid hc
            clear hw4 ht hz y4 hR4 hB4 hc ht1 hb4
            go_upto_region 10 with fail
            rw [← W4]
            clear W4 e0 e1 e2 e3
            refine wp_region_cl (by kernel_rfl) (fun L a w' => L.size = 19 ∧ ∃ u45 u46 u47 u48 u49 u50 u51 u52 u53 u54 u55 u56 u57 u58 u59 u60 u61 u62 : Value, a = { tmps := #[mdlV (.slice AP nP cP) (some ⟨g, o, none⟩) AD G.length cE D.length cD, .slice (some adw) G.length cW, I P, .pointer (some ⟨w.heap.size, 0, none⟩), undef, undef, .slice none 0 0, .slice (some ⟨w.heap.size + 1, 0, none⟩) G.length G.length, I p, I x, undef, .pointer (some ⟨wi'.heap.size, 0, none⟩), .slice (some adw) G.length cW, I G.length, .slice (some ⟨w.heap.size + 1, 0, none⟩) G.length G.length, .slice (some adw) G.length cW, I G.length, I p, .bool true, I p, .pointer (some (adw.add p)), I x, .agg #[.slice AP nP cP, .slice (some ⟨g, o, none⟩) G.length cE, .slice AD D.length cD], I p, .bool false, u25, u26, u27, u28, u29, u30, u31, u32, u33, .pointer (some ⟨w.heap.size, 0, none⟩), .pointer (some ⟨w.heap.size, 1, none⟩), .slice (some ⟨g, o, none⟩) G.length cE, I p, .pointer (some ⟨g, o + p, none⟩), .slice (some ⟨b, qo, none⟩) n cp, I n, I k, .bool true, .pointer (some ⟨b, qo + k * 4, none⟩), .agg #[I z.pl, I z.kd, I z.nm, I t], u45, u46, u47, u48, u49, u50, u51, u52, u53, u54, u55, u56, u57, u58, u59, u60, u61, u62, u63, u64, undef], defers := [] } ∧ (L.getD 18 false = false → Below w4.heap.size w4 w') ∧ (L.getD 0 false = true → u45 = .slice (some ⟨w.heap.size + 1, 0, none⟩) G.length G.length) ∧ (L.getD 1 false = true → u46 = .pointer (some ⟨wi'.heap.size, 3, none⟩)) ∧ (L.getD 2 false = true → u47 = I t) ∧ (L.getD 3 false = true → u48 = .pointer (some ⟨w.heap.size + 1, t, none⟩)) ∧ (L.getD 4 false = true → u49 = I c) ∧ (L.getD 5 false = true → u50 = I x) ∧ (L.getD 6 false = true → u51 = I P) ∧ (L.getD 7 false = true → u52 = .pointer (some ⟨w.heap.size, 0, none⟩)) ∧ (L.getD 8 false = true → u53 = .pointer (some ⟨w.heap.size, 1, none⟩)) ∧ (L.getD 9 false = true → u54 = .slice (some ⟨g, o, none⟩) G.length cE) ∧ (L.getD 10 false = true → u55 = I p) ∧ (L.getD 11 false = true → u56 = .pointer (some ⟨g, o + p, none⟩)) ∧ (L.getD 12 false = true → u57 = .slice (some ⟨b, qo, none⟩) n cp) ∧ (L.getD 13 false = true → u58 = I n) ∧ (L.getD 14 false = true → u59 = I q) ∧ (L.getD 15 false = true → u60 = I y) ∧ (L.getD 16 false = true → u61 = I ((c : Int) + y)) ∧ (L.getD 17 false = true → u62 = .pointer (some ⟨w.heap.size + 1, t, none⟩)) ∧ (L.getD 18 false = true → (Below w1.heap.size w1 w' ∧ Hid (RowAt w' (w.heap.size + 1) 3 (intV (fun c => (mvE G p y F0 (k + 1) c : Int))) G.length)))) ?_ ?_ ?_
            · exact ⟨by simp, _, _, _, _, _, _, _, _, _, _, _, _, _, _, _, _, _, _, rfl, fun _ => (Below.refl _ _).drew, by simp, by simp, by simp, by simp, by simp, by simp, by simp, by simp, by simp, by simp, by simp, by simp, by simp, by simp, by simp, by simp, by simp, by simp, by simp⟩
            · rintro i L a w' hcl ⟨hL, u45, u46, u47, u48, u49, u50, u51, u52, u53, u54, u55, u56, u57, u58, u59, u60, u61, u62, rfl, hbw, h0, h1, h2, h3, h4, h5, h6, h7, h8, h9, h10, h11, h12, h13, h14, h15, h16, h17, h18⟩ hi
              have hcases : i = 0 ∨ i = 1 ∨ i = 2 ∨ i = 3 ∨ i = 4 ∨ i = 5 ∨ i = 6 ∨ i = 7 ∨ i = 8 ∨ i = 9 ∨ i = 10 ∨ i = 11 ∨ i = 12 ∨ i = 13 ∨ i = 14 ∨ i = 15 ∨ i = 16 ∨ i = 17 ∨ i = 18 := by
                have : i < 19 := ready_lt hi
                omega
              have hni := ready_not' hi (by rw [hL]; exact ready_lt hi)
              rcases hcases with rfl | rfl | rfl | rfl | rfl | rfl | rfl | rfl | rfl | rfl | rfl | rfl | rfl | rfl | rfl | rfl | rfl | rfl | rfl
              · refine wpOp_val (.slice (some ⟨w.heap.size + 1, 0, none⟩) G.length G.length) rfl (by rfl) (by go_simp) ?_
                exact ⟨by simpa using hL, _, _, _, _, _, _, _, _, _, _, _, _, _, _, _, _, _, _, rfl, fun h' => hbw ((set_other (by decide)).symm.trans h'), fun _ => rfl, (fun h => h1 ((set_other (by decide)).symm.trans h)), (fun h => h2 ((set_other (by decide)).symm.trans h)), (fun h => h3 ((set_other (by decide)).symm.trans h)), (fun h => h4 ((set_other (by decide)).symm.trans h)), (fun h => h5 ((set_other (by decide)).symm.trans h)), (fun h => h6 ((set_other (by decide)).symm.trans h)), (fun h => h7 ((set_other (by decide)).symm.trans h)), (fun h => h8 ((set_other (by decide)).symm.trans h)), (fun h => h9 ((set_other (by decide)).symm.trans h)), (fun h => h10 ((set_other (by decide)).symm.trans h)), (fun h => h11 ((set_other (by decide)).symm.trans h)), (fun h => h12 ((set_other (by decide)).symm.trans h)), (fun h => h13 ((set_other (by decide)).symm.trans h)), (fun h => h14 ((set_other (by decide)).symm.trans h)), (fun h => h15 ((set_other (by decide)).symm.trans h)), (fun h => h16 ((set_other (by decide)).symm.trans h)), (fun h => h17 ((set_other (by decide)).symm.trans h)), (fun h => by have h' := h18 ((set_other (by decide)).symm.trans h); exact h')⟩
              · refine wpOp_val (.pointer (some ⟨wi'.heap.size, 3, none⟩)) rfl (by rfl) (by go_simp) ?_
                exact ⟨by simpa using hL, _, _, _, _, _, _, _, _, _, _, _, _, _, _, _, _, _, _, rfl, fun h' => hbw ((set_other (by decide)).symm.trans h'), (fun h => h0 ((set_other (by decide)).symm.trans h)), fun _ => rfl, (fun h => h2 ((set_other (by decide)).symm.trans h)), (fun h => h3 ((set_other (by decide)).symm.trans h)), (fun h => h4 ((set_other (by decide)).symm.trans h)), (fun h => h5 ((set_other (by decide)).symm.trans h)), (fun h => h6 ((set_other (by decide)).symm.trans h)), (fun h => h7 ((set_other (by decide)).symm.trans h)), (fun h => h8 ((set_other (by decide)).symm.trans h)), (fun h => h9 ((set_other (by decide)).symm.trans h)), (fun h => h10 ((set_other (by decide)).symm.trans h)), (fun h => h11 ((set_other (by decide)).symm.trans h)), (fun h => h12 ((set_other (by decide)).symm.trans h)), (fun h => h13 ((set_other (by decide)).symm.trans h)), (fun h => h14 ((set_other (by decide)).symm.trans h)), (fun h => h15 ((set_other (by decide)).symm.trans h)), (fun h => h16 ((set_other (by decide)).symm.trans h)), (fun h => h17 ((set_other (by decide)).symm.trans h)), (fun h => by have h' := h18 ((set_other (by decide)).symm.trans h); exact h')⟩
              · obtain rfl := h1 (ready_dep hi 1 (by kernel_rfl))
                have hk0 : L.getD 18 false = false := by
                  cases hq : L.getD 18 false with
                  | false => rfl
                  | true => exact absurd (hcl 18 hq 2 (by kernel_rfl)) (by rw [hni]; simp)
                have hb' := hbw hk0
                have hc' := bcellS hb'
                have hsz : w4.heap.size ≤ w'.heap.size := hb'.size
                refine wpOp_val (I t) rfl (by rfl) (by go_simp) ?_
                exact ⟨by simpa using hL, _, _, _, _, _, _, _, _, _, _, _, _, _, _, _, _, _, _, rfl, fun h' => hbw ((set_other (by decide)).symm.trans h'), (fun h => h0 ((set_other (by decide)).symm.trans h)), (fun h => h1 ((set_other (by decide)).symm.trans h)), fun _ => rfl, (fun h => h3 ((set_other (by decide)).symm.trans h)), (fun h => h4 ((set_other (by decide)).symm.trans h)), (fun h => h5 ((set_other (by decide)).symm.trans h)), (fun h => h6 ((set_other (by decide)).symm.trans h)), (fun h => h7 ((set_other (by decide)).symm.trans h)), (fun h => h8 ((set_other (by decide)).symm.trans h)), (fun h => h9 ((set_other (by decide)).symm.trans h)), (fun h => h10 ((set_other (by decide)).symm.trans h)), (fun h => h11 ((set_other (by decide)).symm.trans h)), (fun h => h12 ((set_other (by decide)).symm.trans h)), (fun h => h13 ((set_other (by decide)).symm.trans h)), (fun h => h14 ((set_other (by decide)).symm.trans h)), (fun h => h15 ((set_other (by decide)).symm.trans h)), (fun h => h16 ((set_other (by decide)).symm.trans h)), (fun h => h17 ((set_other (by decide)).symm.trans h)), (fun h => by have h' := h18 ((set_other (by decide)).symm.trans h); exact h')⟩
              · obtain rfl := h0 (ready_dep hi 0 (by kernel_rfl))
                obtain rfl := h2 (ready_dep hi 2 (by kernel_rfl))
                refine wpOp_val (.pointer (some ⟨w.heap.size + 1, t, none⟩)) rfl (by rfl) (by go_simp) ?_
                exact ⟨by simpa using hL, _, _, _, _, _, _, _, _, _, _, _, _, _, _, _, _, _, _, rfl, fun h' => hbw ((set_other (by decide)).symm.trans h'), (fun h => h0 ((set_other (by decide)).symm.trans h)), (fun h => h1 ((set_other (by decide)).symm.trans h)), (fun h => h2 ((set_other (by decide)).symm.trans h)), fun _ => rfl, (fun h => h4 ((set_other (by decide)).symm.trans h)), (fun h => h5 ((set_other (by decide)).symm.trans h)), (fun h => h6 ((set_other (by decide)).symm.trans h)), (fun h => h7 ((set_other (by decide)).symm.trans h)), (fun h => h8 ((set_other (by decide)).symm.trans h)), (fun h => h9 ((set_other (by decide)).symm.trans h)), (fun h => h10 ((set_other (by decide)).symm.trans h)), (fun h => h11 ((set_other (by decide)).symm.trans h)), (fun h => h12 ((set_other (by decide)).symm.trans h)), (fun h => h13 ((set_other (by decide)).symm.trans h)), (fun h => h14 ((set_other (by decide)).symm.trans h)), (fun h => h15 ((set_other (by decide)).symm.trans h)), (fun h => h16 ((set_other (by decide)).symm.trans h)), (fun h => h17 ((set_other (by decide)).symm.trans h)), (fun h => by have h' := h18 ((set_other (by decide)).symm.trans h); exact h')⟩
              · obtain rfl := h3 (ready_dep hi 3 (by kernel_rfl))
                have hk0 : L.getD 18 false = false := by
                  cases hq : L.getD 18 false with
                  | false => rfl
                  | true => exact absurd (hcl 18 hq 4 (by kernel_rfl)) (by rw [hni]; simp)
                have hb' := hbw hk0
                have hc' := bcellS hb'
                have hsz : w4.heap.size ≤ w'.heap.size := hb'.size
                have r1 := (hc'.1 _ _ s5).trans r0
                refine wpOp_val (I c) rfl (by rfl) (by go_simp) ?_
                exact ⟨by simpa using hL, _, _, _, _, _, _, _, _, _, _, _, _, _, _, _, _, _, _, rfl, fun h' => hbw ((set_other (by decide)).symm.trans h'), (fun h => h0 ((set_other (by decide)).symm.trans h)), (fun h => h1 ((set_other (by decide)).symm.trans h)), (fun h => h2 ((set_other (by decide)).symm.trans h)), (fun h => h3 ((set_other (by decide)).symm.trans h)), fun _ => rfl, (fun h => h5 ((set_other (by decide)).symm.trans h)), (fun h => h6 ((set_other (by decide)).symm.trans h)), (fun h => h7 ((set_other (by decide)).symm.trans h)), (fun h => h8 ((set_other (by decide)).symm.trans h)), (fun h => h9 ((set_other (by decide)).symm.trans h)), (fun h => h10 ((set_other (by decide)).symm.trans h)), (fun h => h11 ((set_other (by decide)).symm.trans h)), (fun h => h12 ((set_other (by decide)).symm.trans h)), (fun h => h13 ((set_other (by decide)).symm.trans h)), (fun h => h14 ((set_other (by decide)).symm.trans h)), (fun h => h15 ((set_other (by decide)).symm.trans h)), (fun h => h16 ((set_other (by decide)).symm.trans h)), (fun h => h17 ((set_other (by decide)).symm.trans h)), (fun h => by have h' := h18 ((set_other (by decide)).symm.trans h); exact h')⟩
              · refine wpOp_val (I x) rfl (by rfl) (by go_simp) ?_
                exact ⟨by simpa using hL, _, _, _, _, _, _, _, _, _, _, _, _, _, _, _, _, _, _, rfl, fun h' => hbw ((set_other (by decide)).symm.trans h'), (fun h => h0 ((set_other (by decide)).symm.trans h)), (fun h => h1 ((set_other (by decide)).symm.trans h)), (fun h => h2 ((set_other (by decide)).symm.trans h)), (fun h => h3 ((set_other (by decide)).symm.trans h)), (fun h => h4 ((set_other (by decide)).symm.trans h)), fun _ => rfl, (fun h => h6 ((set_other (by decide)).symm.trans h)), (fun h => h7 ((set_other (by decide)).symm.trans h)), (fun h => h8 ((set_other (by decide)).symm.trans h)), (fun h => h9 ((set_other (by decide)).symm.trans h)), (fun h => h10 ((set_other (by decide)).symm.trans h)), (fun h => h11 ((set_other (by decide)).symm.trans h)), (fun h => h12 ((set_other (by decide)).symm.trans h)), (fun h => h13 ((set_other (by decide)).symm.trans h)), (fun h => h14 ((set_other (by decide)).symm.trans h)), (fun h => h15 ((set_other (by decide)).symm.trans h)), (fun h => h16 ((set_other (by decide)).symm.trans h)), (fun h => h17 ((set_other (by decide)).symm.trans h)), (fun h => by have h' := h18 ((set_other (by decide)).symm.trans h); exact h')⟩
              · refine wpOp_val (I P) rfl (by rfl) (by go_simp) ?_
                exact ⟨by simpa using hL, _, _, _, _, _, _, _, _, _, _, _, _, _, _, _, _, _, _, rfl, fun h' => hbw ((set_other (by decide)).symm.trans h'), (fun h => h0 ((set_other (by decide)).symm.trans h)), (fun h => h1 ((set_other (by decide)).symm.trans h)), (fun h => h2 ((set_other (by decide)).symm.trans h)), (fun h => h3 ((set_other (by decide)).symm.trans h)), (fun h => h4 ((set_other (by decide)).symm.trans h)), (fun h => h5 ((set_other (by decide)).symm.trans h)), fun _ => rfl, (fun h => h7 ((set_other (by decide)).symm.trans h)), (fun h => h8 ((set_other (by decide)).symm.trans h)), (fun h => h9 ((set_other (by decide)).symm.trans h)), (fun h => h10 ((set_other (by decide)).symm.trans h)), (fun h => h11 ((set_other (by decide)).symm.trans h)), (fun h => h12 ((set_other (by decide)).symm.trans h)), (fun h => h13 ((set_other (by decide)).symm.trans h)), (fun h => h14 ((set_other (by decide)).symm.trans h)), (fun h => h15 ((set_other (by decide)).symm.trans h)), (fun h => h16 ((set_other (by decide)).symm.trans h)), (fun h => h17 ((set_other (by decide)).symm.trans h)), (fun h => by have h' := h18 ((set_other (by decide)).symm.trans h); exact h')⟩
              · refine wpOp_val (.pointer (some ⟨w.heap.size, 0, none⟩)) rfl (by rfl) (by go_simp) ?_
                exact ⟨by simpa using hL, _, _, _, _, _, _, _, _, _, _, _, _, _, _, _, _, _, _, rfl, fun h' => hbw ((set_other (by decide)).symm.trans h'), (fun h => h0 ((set_other (by decide)).symm.trans h)), (fun h => h1 ((set_other (by decide)).symm.trans h)), (fun h => h2 ((set_other (by decide)).symm.trans h)), (fun h => h3 ((set_other (by decide)).symm.trans h)), (fun h => h4 ((set_other (by decide)).symm.trans h)), (fun h => h5 ((set_other (by decide)).symm.trans h)), (fun h => h6 ((set_other (by decide)).symm.trans h)), fun _ => rfl, (fun h => h8 ((set_other (by decide)).symm.trans h)), (fun h => h9 ((set_other (by decide)).symm.trans h)), (fun h => h10 ((set_other (by decide)).symm.trans h)), (fun h => h11 ((set_other (by decide)).symm.trans h)), (fun h => h12 ((set_other (by decide)).symm.trans h)), (fun h => h13 ((set_other (by decide)).symm.trans h)), (fun h => h14 ((set_other (by decide)).symm.trans h)), (fun h => h15 ((set_other (by decide)).symm.trans h)), (fun h => h16 ((set_other (by decide)).symm.trans h)), (fun h => h17 ((set_other (by decide)).symm.trans h)), (fun h => by have h' := h18 ((set_other (by decide)).symm.trans h); exact h')⟩
              · obtain rfl := h7 (ready_dep hi 7 (by kernel_rfl))
                refine wpOp_val (.pointer (some ⟨w.heap.size, 1, none⟩)) rfl (by rfl) (by go_simp) ?_
                exact ⟨by simpa using hL, _, _, _, _, _, _, _, _, _, _, _, _, _, _, _, _, _, _, rfl, fun h' => hbw ((set_other (by decide)).symm.trans h'), (fun h => h0 ((set_other (by decide)).symm.trans h)), (fun h => h1 ((set_other (by decide)).symm.trans h)), (fun h => h2 ((set_other (by decide)).symm.trans h)), (fun h => h3 ((set_other (by decide)).symm.trans h)), (fun h => h4 ((set_other (by decide)).symm.trans h)), (fun h => h5 ((set_other (by decide)).symm.trans h)), (fun h => h6 ((set_other (by decide)).symm.trans h)), (fun h => h7 ((set_other (by decide)).symm.trans h)), fun _ => rfl, (fun h => h9 ((set_other (by decide)).symm.trans h)), (fun h => h10 ((set_other (by decide)).symm.trans h)), (fun h => h11 ((set_other (by decide)).symm.trans h)), (fun h => h12 ((set_other (by decide)).symm.trans h)), (fun h => h13 ((set_other (by decide)).symm.trans h)), (fun h => h14 ((set_other (by decide)).symm.trans h)), (fun h => h15 ((set_other (by decide)).symm.trans h)), (fun h => h16 ((set_other (by decide)).symm.trans h)), (fun h => h17 ((set_other (by decide)).symm.trans h)), (fun h => by have h' := h18 ((set_other (by decide)).symm.trans h); exact h')⟩
              · obtain rfl := h8 (ready_dep hi 8 (by kernel_rfl))
                have hk0 : L.getD 18 false = false := by
                  cases hq : L.getD 18 false with
                  | false => rfl
                  | true => exact absurd (hcl 18 hq 9 (by kernel_rfl)) (by rw [hni]; simp)
                have hb' := hbw hk0
                have hc' := bcellS hb'
                have hsz : w4.heap.size ≤ w'.heap.size := hb'.size
                have r1 := (hc'.1 _ _ s6).trans d1
                refine wpOp_val (.slice (some ⟨g, o, none⟩) G.length cE) rfl (by rfl) (by go_simp) ?_
                exact ⟨by simpa using hL, _, _, _, _, _, _, _, _, _, _, _, _, _, _, _, _, _, _, rfl, fun h' => hbw ((set_other (by decide)).symm.trans h'), (fun h => h0 ((set_other (by decide)).symm.trans h)), (fun h => h1 ((set_other (by decide)).symm.trans h)), (fun h => h2 ((set_other (by decide)).symm.trans h)), (fun h => h3 ((set_other (by decide)).symm.trans h)), (fun h => h4 ((set_other (by decide)).symm.trans h)), (fun h => h5 ((set_other (by decide)).symm.trans h)), (fun h => h6 ((set_other (by decide)).symm.trans h)), (fun h => h7 ((set_other (by decide)).symm.trans h)), (fun h => h8 ((set_other (by decide)).symm.trans h)), fun _ => rfl, (fun h => h10 ((set_other (by decide)).symm.trans h)), (fun h => h11 ((set_other (by decide)).symm.trans h)), (fun h => h12 ((set_other (by decide)).symm.trans h)), (fun h => h13 ((set_other (by decide)).symm.trans h)), (fun h => h14 ((set_other (by decide)).symm.trans h)), (fun h => h15 ((set_other (by decide)).symm.trans h)), (fun h => h16 ((set_other (by decide)).symm.trans h)), (fun h => h17 ((set_other (by decide)).symm.trans h)), (fun h => by have h' := h18 ((set_other (by decide)).symm.trans h); exact h')⟩
              · refine wpOp_val (I p) rfl (by rfl) (by go_simp) ?_
                exact ⟨by simpa using hL, _, _, _, _, _, _, _, _, _, _, _, _, _, _, _, _, _, _, rfl, fun h' => hbw ((set_other (by decide)).symm.trans h'), (fun h => h0 ((set_other (by decide)).symm.trans h)), (fun h => h1 ((set_other (by decide)).symm.trans h)), (fun h => h2 ((set_other (by decide)).symm.trans h)), (fun h => h3 ((set_other (by decide)).symm.trans h)), (fun h => h4 ((set_other (by decide)).symm.trans h)), (fun h => h5 ((set_other (by decide)).symm.trans h)), (fun h => h6 ((set_other (by decide)).symm.trans h)), (fun h => h7 ((set_other (by decide)).symm.trans h)), (fun h => h8 ((set_other (by decide)).symm.trans h)), (fun h => h9 ((set_other (by decide)).symm.trans h)), fun _ => rfl, (fun h => h11 ((set_other (by decide)).symm.trans h)), (fun h => h12 ((set_other (by decide)).symm.trans h)), (fun h => h13 ((set_other (by decide)).symm.trans h)), (fun h => h14 ((set_other (by decide)).symm.trans h)), (fun h => h15 ((set_other (by decide)).symm.trans h)), (fun h => h16 ((set_other (by decide)).symm.trans h)), (fun h => h17 ((set_other (by decide)).symm.trans h)), (fun h => by have h' := h18 ((set_other (by decide)).symm.trans h); exact h')⟩
              · obtain rfl := h9 (ready_dep hi 9 (by kernel_rfl))
                obtain rfl := h10 (ready_dep hi 10 (by kernel_rfl))
                refine wpOp_val (.pointer (some ⟨g, o + p, none⟩)) rfl (by rfl) (by go_simp) ?_
                exact ⟨by simpa using hL, _, _, _, _, _, _, _, _, _, _, _, _, _, _, _, _, _, _, rfl, fun h' => hbw ((set_other (by decide)).symm.trans h'), (fun h => h0 ((set_other (by decide)).symm.trans h)), (fun h => h1 ((set_other (by decide)).symm.trans h)), (fun h => h2 ((set_other (by decide)).symm.trans h)), (fun h => h3 ((set_other (by decide)).symm.trans h)), (fun h => h4 ((set_other (by decide)).symm.trans h)), (fun h => h5 ((set_other (by decide)).symm.trans h)), (fun h => h6 ((set_other (by decide)).symm.trans h)), (fun h => h7 ((set_other (by decide)).symm.trans h)), (fun h => h8 ((set_other (by decide)).symm.trans h)), (fun h => h9 ((set_other (by decide)).symm.trans h)), (fun h => h10 ((set_other (by decide)).symm.trans h)), fun _ => rfl, (fun h => h12 ((set_other (by decide)).symm.trans h)), (fun h => h13 ((set_other (by decide)).symm.trans h)), (fun h => h14 ((set_other (by decide)).symm.trans h)), (fun h => h15 ((set_other (by decide)).symm.trans h)), (fun h => h16 ((set_other (by decide)).symm.trans h)), (fun h => h17 ((set_other (by decide)).symm.trans h)), (fun h => by have h' := h18 ((set_other (by decide)).symm.trans h); exact h')⟩
              · obtain rfl := h11 (ready_dep hi 11 (by kernel_rfl))
                have hk0 : L.getD 18 false = false := by
                  cases hq : L.getD 18 false with
                  | false => rfl
                  | true => exact absurd (hcl 18 hq 12 (by kernel_rfl)) (by rw [hni]; simp)
                have hb' := hbw hk0
                have hc' := bcellS hb'
                have hsz : w4.heap.size ≤ w'.heap.size := hb'.size
                have r1 := (hc'.1 _ _ s7).trans dG
                refine wpOp_val (.slice (some ⟨b, qo, none⟩) n cp) rfl (by rfl) (by go_simp) ?_
                exact ⟨by simpa using hL, _, _, _, _, _, _, _, _, _, _, _, _, _, _, _, _, _, _, rfl, fun h' => hbw ((set_other (by decide)).symm.trans h'), (fun h => h0 ((set_other (by decide)).symm.trans h)), (fun h => h1 ((set_other (by decide)).symm.trans h)), (fun h => h2 ((set_other (by decide)).symm.trans h)), (fun h => h3 ((set_other (by decide)).symm.trans h)), (fun h => h4 ((set_other (by decide)).symm.trans h)), (fun h => h5 ((set_other (by decide)).symm.trans h)), (fun h => h6 ((set_other (by decide)).symm.trans h)), (fun h => h7 ((set_other (by decide)).symm.trans h)), (fun h => h8 ((set_other (by decide)).symm.trans h)), (fun h => h9 ((set_other (by decide)).symm.trans h)), (fun h => h10 ((set_other (by decide)).symm.trans h)), (fun h => h11 ((set_other (by decide)).symm.trans h)), fun _ => rfl, (fun h => h13 ((set_other (by decide)).symm.trans h)), (fun h => h14 ((set_other (by decide)).symm.trans h)), (fun h => h15 ((set_other (by decide)).symm.trans h)), (fun h => h16 ((set_other (by decide)).symm.trans h)), (fun h => h17 ((set_other (by decide)).symm.trans h)), (fun h => by have h' := h18 ((set_other (by decide)).symm.trans h); exact h')⟩
              · obtain rfl := h12 (ready_dep hi 12 (by kernel_rfl))
                refine wpOp_val (I n) rfl (by rfl) (by go_simp) ?_
                exact ⟨by simpa using hL, _, _, _, _, _, _, _, _, _, _, _, _, _, _, _, _, _, _, rfl, fun h' => hbw ((set_other (by decide)).symm.trans h'), (fun h => h0 ((set_other (by decide)).symm.trans h)), (fun h => h1 ((set_other (by decide)).symm.trans h)), (fun h => h2 ((set_other (by decide)).symm.trans h)), (fun h => h3 ((set_other (by decide)).symm.trans h)), (fun h => h4 ((set_other (by decide)).symm.trans h)), (fun h => h5 ((set_other (by decide)).symm.trans h)), (fun h => h6 ((set_other (by decide)).symm.trans h)), (fun h => h7 ((set_other (by decide)).symm.trans h)), (fun h => h8 ((set_other (by decide)).symm.trans h)), (fun h => h9 ((set_other (by decide)).symm.trans h)), (fun h => h10 ((set_other (by decide)).symm.trans h)), (fun h => h11 ((set_other (by decide)).symm.trans h)), (fun h => h12 ((set_other (by decide)).symm.trans h)), fun _ => rfl, (fun h => h14 ((set_other (by decide)).symm.trans h)), (fun h => h15 ((set_other (by decide)).symm.trans h)), (fun h => h16 ((set_other (by decide)).symm.trans h)), (fun h => h17 ((set_other (by decide)).symm.trans h)), (fun h => by have h' := h18 ((set_other (by decide)).symm.trans h); exact h')⟩
              · obtain rfl := h6 (ready_dep hi 6 (by kernel_rfl))
                obtain rfl := h13 (ready_dep hi 13 (by kernel_rfl))
                refine wpOp_val (I q) rfl (by rfl) (by go_simp) ?_
                exact ⟨by simpa using hL, _, _, _, _, _, _, _, _, _, _, _, _, _, _, _, _, _, _, rfl, fun h' => hbw ((set_other (by decide)).symm.trans h'), (fun h => h0 ((set_other (by decide)).symm.trans h)), (fun h => h1 ((set_other (by decide)).symm.trans h)), (fun h => h2 ((set_other (by decide)).symm.trans h)), (fun h => h3 ((set_other (by decide)).symm.trans h)), (fun h => h4 ((set_other (by decide)).symm.trans h)), (fun h => h5 ((set_other (by decide)).symm.trans h)), (fun h => h6 ((set_other (by decide)).symm.trans h)), (fun h => h7 ((set_other (by decide)).symm.trans h)), (fun h => h8 ((set_other (by decide)).symm.trans h)), (fun h => h9 ((set_other (by decide)).symm.trans h)), (fun h => h10 ((set_other (by decide)).symm.trans h)), (fun h => h11 ((set_other (by decide)).symm.trans h)), (fun h => h12 ((set_other (by decide)).symm.trans h)), (fun h => h13 ((set_other (by decide)).symm.trans h)), fun _ => rfl, (fun h => h15 ((set_other (by decide)).symm.trans h)), (fun h => h16 ((set_other (by decide)).symm.trans h)), (fun h => h17 ((set_other (by decide)).symm.trans h)), (fun h => by have h' := h18 ((set_other (by decide)).symm.trans h); exact h')⟩
              · obtain rfl := h5 (ready_dep hi 5 (by kernel_rfl))
                obtain rfl := h14 (ready_dep hi 14 (by kernel_rfl))
                refine wpOp_val (I y) rfl (by rfl) (by go_simp) ?_
                exact ⟨by simpa using hL, _, _, _, _, _, _, _, _, _, _, _, _, _, _, _, _, _, _, rfl, fun h' => hbw ((set_other (by decide)).symm.trans h'), (fun h => h0 ((set_other (by decide)).symm.trans h)), (fun h => h1 ((set_other (by decide)).symm.trans h)), (fun h => h2 ((set_other (by decide)).symm.trans h)), (fun h => h3 ((set_other (by decide)).symm.trans h)), (fun h => h4 ((set_other (by decide)).symm.trans h)), (fun h => h5 ((set_other (by decide)).symm.trans h)), (fun h => h6 ((set_other (by decide)).symm.trans h)), (fun h => h7 ((set_other (by decide)).symm.trans h)), (fun h => h8 ((set_other (by decide)).symm.trans h)), (fun h => h9 ((set_other (by decide)).symm.trans h)), (fun h => h10 ((set_other (by decide)).symm.trans h)), (fun h => h11 ((set_other (by decide)).symm.trans h)), (fun h => h12 ((set_other (by decide)).symm.trans h)), (fun h => h13 ((set_other (by decide)).symm.trans h)), (fun h => h14 ((set_other (by decide)).symm.trans h)), fun _ => rfl, (fun h => h16 ((set_other (by decide)).symm.trans h)), (fun h => h17 ((set_other (by decide)).symm.trans h)), (fun h => by have h' := h18 ((set_other (by decide)).symm.trans h); exact h')⟩
              · obtain rfl := h4 (ready_dep hi 4 (by kernel_rfl))
                obtain rfl := h15 (ready_dep hi 15 (by kernel_rfl))
                refine wpOp_val (I ((c : Int) + y)) rfl (by rfl) (by go_simp) ?_
                exact ⟨by simpa using hL, _, _, _, _, _, _, _, _, _, _, _, _, _, _, _, _, _, _, rfl, fun h' => hbw ((set_other (by decide)).symm.trans h'), (fun h => h0 ((set_other (by decide)).symm.trans h)), (fun h => h1 ((set_other (by decide)).symm.trans h)), (fun h => h2 ((set_other (by decide)).symm.trans h)), (fun h => h3 ((set_other (by decide)).symm.trans h)), (fun h => h4 ((set_other (by decide)).symm.trans h)), (fun h => h5 ((set_other (by decide)).symm.trans h)), (fun h => h6 ((set_other (by decide)).symm.trans h)), (fun h => h7 ((set_other (by decide)).symm.trans h)), (fun h => h8 ((set_other (by decide)).symm.trans h)), (fun h => h9 ((set_other (by decide)).symm.trans h)), (fun h => h10 ((set_other (by decide)).symm.trans h)), (fun h => h11 ((set_other (by decide)).symm.trans h)), (fun h => h12 ((set_other (by decide)).symm.trans h)), (fun h => h13 ((set_other (by decide)).symm.trans h)), (fun h => h14 ((set_other (by decide)).symm.trans h)), (fun h => h15 ((set_other (by decide)).symm.trans h)), fun _ => rfl, (fun h => h17 ((set_other (by decide)).symm.trans h)), (fun h => by have h' := h18 ((set_other (by decide)).symm.trans h); exact h')⟩
              · obtain rfl := h0 (ready_dep hi 0 (by kernel_rfl))
                obtain rfl := h2 (ready_dep hi 2 (by kernel_rfl))
                refine wpOp_val (.pointer (some ⟨w.heap.size + 1, t, none⟩)) rfl (by rfl) (by go_simp) ?_
                exact ⟨by simpa using hL, _, _, _, _, _, _, _, _, _, _, _, _, _, _, _, _, _, _, rfl, fun h' => hbw ((set_other (by decide)).symm.trans h'), (fun h => h0 ((set_other (by decide)).symm.trans h)), (fun h => h1 ((set_other (by decide)).symm.trans h)), (fun h => h2 ((set_other (by decide)).symm.trans h)), (fun h => h3 ((set_other (by decide)).symm.trans h)), (fun h => h4 ((set_other (by decide)).symm.trans h)), (fun h => h5 ((set_other (by decide)).symm.trans h)), (fun h => h6 ((set_other (by decide)).symm.trans h)), (fun h => h7 ((set_other (by decide)).symm.trans h)), (fun h => h8 ((set_other (by decide)).symm.trans h)), (fun h => h9 ((set_other (by decide)).symm.trans h)), (fun h => h10 ((set_other (by decide)).symm.trans h)), (fun h => h11 ((set_other (by decide)).symm.trans h)), (fun h => h12 ((set_other (by decide)).symm.trans h)), (fun h => h13 ((set_other (by decide)).symm.trans h)), (fun h => h14 ((set_other (by decide)).symm.trans h)), (fun h => h15 ((set_other (by decide)).symm.trans h)), (fun h => h16 ((set_other (by decide)).symm.trans h)), fun _ => rfl, (fun h => by have h' := h18 ((set_other (by decide)).symm.trans h); exact h')⟩
              · obtain rfl := h16 (ready_dep hi 16 (by kernel_rfl))
                obtain rfl := h17 (ready_dep hi 17 (by kernel_rfl))
                have hk0 : L.getD 18 false = false := hni
                have hb' := hbw hk0
                have hc' := bcellS hb'
                have hsz : w4.heap.size ≤ w'.heap.size := hb'.size
                have rV := HR4.out.below hb' HR4.out.lt
                have fV := rV.free t
                have cV : w'.cell? ⟨w.heap.size + 1, t, none⟩ = some (.int .i64 (c : Int)) := (rV.at_ ht2).trans (by simp only [intV]; rw [HCC.out])
                refine wpOp_st (w'.setCell ⟨w.heap.size + 1, t, none⟩ (I ((c : Int) + y))) rfl (by rfl) (by go_simp) ?_
                exact ⟨by simpa using hL, _, _, _, _, _, _, _, _, _, _, _, _, _, _, _, _, _, _, rfl, (fun h' => by rw [set_same (by omega)] at h'; cases h'), (fun h => h0 ((set_other (by decide)).symm.trans h)), (fun h => h1 ((set_other (by decide)).symm.trans h)), (fun h => h2 ((set_other (by decide)).symm.trans h)), (fun h => h3 ((set_other (by decide)).symm.trans h)), (fun h => h4 ((set_other (by decide)).symm.trans h)), (fun h => h5 ((set_other (by decide)).symm.trans h)), (fun h => h6 ((set_other (by decide)).symm.trans h)), (fun h => h7 ((set_other (by decide)).symm.trans h)), (fun h => h8 ((set_other (by decide)).symm.trans h)), (fun h => h9 ((set_other (by decide)).symm.trans h)), (fun h => h10 ((set_other (by decide)).symm.trans h)), (fun h => h11 ((set_other (by decide)).symm.trans h)), (fun h => h12 ((set_other (by decide)).symm.trans h)), (fun h => h13 ((set_other (by decide)).symm.trans h)), (fun h => h14 ((set_other (by decide)).symm.trans h)), (fun h => h15 ((set_other (by decide)).symm.trans h)), (fun h => h16 ((set_other (by decide)).symm.trans h)), (fun h => h17 ((set_other (by decide)).symm.trans h)), fun _ => ⟨(HB4.out.trans (hb'.mono HB4.out.size)).grown (grown_setCell _ _ _) (by have := HB4.out.size; omega) (fun j hj => by injection hj with hj; rw [← hj, hs1]; exact Nat.le_refl _), Lib.hid (intV_set rV fun i _ => by
        rw [mvE, addN, ← HT.out]
        by_cases e : i = t
        · subst e; rw [if_pos rfl, if_pos rfl, ← HCC.out]; simp
        · rw [if_neg e, if_neg e])⟩⟩
            · rintro L a w' ⟨hL, u45, u46, u47, u48, u49, u50, u51, u52, u53, u54, u55, u56, u57, u58, u59, u60, u61, u62, rfl, hbw, h0, h1, h2, h3, h4, h5, h6, h7, h8, h9, h10, h11, h12, h13, h14, h15, h16, h17, h18⟩ hr
              have hall := all_listed hL (by kernel_rfl) hr
              obtain rfl := h0 (hall 0 (by decide))
              obtain rfl := h1 (hall 1 (by decide))
              obtain rfl := h2 (hall 2 (by decide))
              obtain rfl := h3 (hall 3 (by decide))
              obtain rfl := h4 (hall 4 (by decide))
              obtain rfl := h5 (hall 5 (by decide))
              obtain rfl := h6 (hall 6 (by decide))
              obtain rfl := h7 (hall 7 (by decide))
              obtain rfl := h8 (hall 8 (by decide))
              obtain rfl := h9 (hall 9 (by decide))
              obtain rfl := h10 (hall 10 (by decide))
              obtain rfl := h11 (hall 11 (by decide))
              obtain rfl := h12 (hall 12 (by decide))
              obtain rfl := h13 (hall 13 (by decide))
              obtain rfl := h14 (hall 14 (by decide))
              obtain rfl := h15 (hall 15 (by decide))
              obtain rfl := h16 (hall 16 (by decide))
              obtain rfl := h17 (hall 17 (by decide))
              have g18 := h18 (hall 18 (by decide))
              clear hall hr hL hbw h0 h1 h2 h3 h4 h5 h6 h7 h8 h9 h10 h11 h12 h13 h14 h15 h16 h17 h18
              try dsimp only
              obtain ⟨hB5, HR5⟩ := g18
              clear d0 d1 d2 dG z3 r0 wq wy wc
              go_wp2_with fail
              go_roundw
              case rel => exact ⟨_, _, _, _, _, _, _, _, _, _, _, _, _, _, _, _, _, _, _, _, _, _, _, _, ⟨k + 1, by omega, by go_num, hB5, HR5⟩, rfl⟩
              case measure => simp [intOf] <;> omega
          · obtain rfl : k = n := by omega
            go_wp2_with fail
            go_roundw
            case rel => exact ⟨p + 1, by omega, by go_num, hB', Lib.hid (by rw [HEQ.out]; exact HR'.out)⟩
            case measure => simp [intOf] <;> omega
    · obtain rfl : p = G.length := by omega
      go_wp2_with fail
      go_ret
      exact ⟨_, _, rfl, HR.out.ints, HB1.out.trans (hB.mono HB1.out.size)⟩
end Go.Proofs.Ytehoaenkkmmobaa
