/-
  LAYER 6, CONTRACTS: wrong, widths, choices.
-/
import Derived.Test.YtehoaenkkmmobaaSrLn
import Derived.Test.YtehoaenkkmmobaaSrWo
namespace Go.Proofs.Ytehoaenkkmmobaa
open Go.RowKit Go.Shelf
/-- how many of the first k edges do not lead nearer -/
def wct (G : List (List Ed)) (D : List Int) (p : Nat) : Nat → Nat
  | 0 => 0
  | k + 1 => wct G D p k + if nrB G D p k then 0 else 1
theorem wct_le (G : List (List Ed)) (D : List Int) (p : Nat) : ∀ k, wct G D p k ≤ k := by
  intro k
  induction k with
  | zero => exact Nat.le_refl _
  | succ k ih => rw [wct]; split <;> omega
def wrP (G : List (List Ed)) (D : List Int) (p : Nat) : Nat := wct G D p (gAt G p).length
def wrL (G : List (List Ed)) (D : List Int) : List Int := (List.range G.length).map fun p => (wrP G D p : Int)
/-- the row while position p's first k edges have been looked at -/
def wrF (G : List (List Ed)) (D : List Int) (p k c : Nat) : Int := if c < p then (wrP G D c : Int) else if c = p then (wct G D p k : Int) else 0
theorem RowAt.ints {w : World} {g n : Nat} {F : Nat → Int} (h : RowAt w g 3 (intV F) n) : IntsR w w.heap.size (some ⟨g, 0, none⟩) ((List.range n).map F) := fun h0 => by
  refine ⟨_, rfl, h.lt, fun j hj => ?_⟩
  have hj' : j < n := by simpa using hj
  rw [plain_addI, Nat.zero_add, h.at_ hj', nth_lt hj]
  simp [intV]
set_option maxRecDepth 100000 in
set_option maxHeartbeats 8000000 in
theorem wrong_any (AP AE AD : Option Addr) (nP cP cE cD : Nat) (G : List (List Ed)) (D : List Int) (w : World) (hm : MdR w AE AD G D) (hv : Vld G D) (hbd : ∀ k, -1 ≤ nth D k ∧ nth D k ≤ 1000) :
    Calls Try.prog 47 #[mdlV (.slice AP nP cP) AE AD G.length cE D.length cD] w fun e w' => ∃ A c, e = .returned (.slice A G.length c) ∧ IntsR w' w'.heap.size A (wrL G D) ∧ Below w.heap.size w w' := by
  obtain ⟨w1, hw1, hs1, y0, hb1⟩ := one_box w (.cells #[.slice AP nP cP, .slice AE G.length cE, .slice AD D.length cD] 64)
  have hc : ∀ V, Below w1.heap.size w1 V → V.cell? ⟨w.heap.size, 0, none⟩ = some (.slice AP nP cP) ∧ V.cell? ⟨w.heap.size, 1, none⟩ = some (.slice AE G.length cE) ∧ V.cell? ⟨w.heap.size, 2, none⟩ = some (.slice AD D.length cD) ∧ MdR V AE AD G D := fun V hV =>
    ⟨(hV.cell (p := ⟨w.heap.size, 0, none⟩) (by show w.heap.size < _; omega)).trans (cell_of_row w1 _ 0 _ _ _ y0), (hV.cell (p := ⟨w.heap.size, 1, none⟩) (by show w.heap.size < _; omega)).trans (cell_of_row w1 _ 1 _ _ _ y0), (hV.cell (p := ⟨w.heap.size, 2, none⟩) (by show w.heap.size < _; omega)).trans (cell_of_row w1 _ 2 _ _ _ y0), (hm.call hb1).call hV⟩
  obtain ⟨a0, a1, a2, -⟩ := hc w1 (Below.refl _ _)
  have hmx := hv.many
  have hpos := hv.pos
  have HF := Lib.hid hv.few
  have HL := Lib.hid (fun V (p k : Nat) (hV : Below w1.heap.size w1 V) (hp : p < G.length) (hk : k < (eOf G p).length) => leads_any (.slice AP nP cP) AE AD cE cD G D p k V ((hm.call hb1).call hV) hv hp hk hbd)
  have HC := Lib.hid hc
  have HB1 := Lib.hid hb1
  have hmk := run_make_row' (P := Try.prog) 26 3 (.int .i64 0) 8 Try.underlying26 info_int rfl .i64 .i64 G.length (by omega) (by omega)
  simp only [madeF] at hmk
  clear hm hv y0 hb1 hbd hc
  go_enter Try.func47, Try.ntmps47
  go_upto_region 1 with fail
  rw [← hw1]
  clear hw1
  go_upto_region 3 with fail
  obtain ⟨w2, hw2⟩ : ∃ w2, w2 = w1.alloc (.cells (rowF (fun _ => Value.int .i64 0) G.length) 3) := ⟨_, rfl⟩
  rw [← hw2]
  have hR2 : RowAt w2 (w.heap.size + 1) 3 (intV (wrF G D 0 0)) G.length := by
    rw [hw2]
    have h0 : RowAt (w1.alloc (.cells (rowF (fun _ => Value.int .i64 0) G.length) 3)) (w.heap.size + 1) 3 (fun _ => Value.int .i64 0) G.length := alloc_obj w1 _ _ hs1.symm
    refine h0.congr fun i _ => ?_
    simp only [intV, wrF, wct]
    split
    · omega
    · split <;> rfl
  have hB2 : Below w1.heap.size w1 w2 := by rw [hw2]; exact (Below.refl _ _).alloc (Nat.le_refl _) _
  have s1 : w.heap.size < w1.heap.size := by omega
  have HR2 := Lib.hid hR2
  clear hw2 hmk hR2 a0 a1 a2
  go_wp2_with fail
  go_loopw [16] (fun i wr => ∃ p : Nat, p ≤ G.length ∧ i = .int .i64 p ∧ Below w1.heap.size w1 wr ∧ Hid (RowAt wr (w.heap.size + 1) 3 (intV (wrF G D p 0)) G.length)) (fun i _ => G.length - (intOf i).toNat)
  case atStart => exact ⟨0, Nat.zero_le _, rfl, hB2, HR2⟩
  case round =>
    obtain ⟨p, hp, rfl, hB, HR⟩ := hrel
    obtain ⟨wo, hwo⟩ : ∃ wo : World, wo = wr := ⟨_, rfl⟩
    rw [← hwo] at hB HR
    rw [← hwo]
    clear hwo
    by_cases hlt : p < G.length
    · obtain ⟨b0, b1, b2, hmo⟩ := HC.out wo hB
      obtain ⟨g, o, e1, hgl, Ap, cp, hcG, -⟩ := hmo.g.at_ hlt
      subst e1
      have hfp := HF.out p hlt
      have hel := eOf_len hlt
      rw [← gAt_eq hlt] at hcG hfp hel
      have hwl : wrP G D p = wct G D p (gAt G p).length := rfl
      obtain ⟨n, hn⟩ : ∃ n, n = (gAt G p).length := ⟨_, rfl⟩
      rw [← hn] at hcG hfp hel hwl
      have HWL := Lib.hid hwl
      have HBo := Lib.hid hB
      clear hmo hn hwl b0 b1 b2
      go_upto_region 6 with fail
      go_wp2_with fail
      go_loopw [23] (fun i ws => ∃ k : Nat, k ≤ n ∧ i = .int .i64 k ∧ Below w1.heap.size w1 ws ∧ Hid (RowAt ws (w.heap.size + 1) 3 (intV (wrF G D p k)) G.length)) (fun i _ => n - (intOf i).toNat)
      case atStart => exact ⟨0, Nat.zero_le _, rfl, hB, HR⟩
      case round =>
        obtain ⟨k, hk, rfl, hB', HR'⟩ := hrel
        obtain ⟨wi', hwi⟩ : ∃ wi' : World, wi' = wr := ⟨_, rfl⟩
        rw [← hwi] at hB' HR'
        rw [← hwi]
        clear hwi
        obtain ⟨b0, b1, b2, -⟩ := HC.out wi' hB'
        by_cases hkl : k < n
        · have hcall := HL.out wi' p k hB' hlt (by rw [hel]; exact hkl)
          have hwle := wct_le G D p k
          have HWS := Lib.hid (show wct G D p (k + 1) = wct G D p k + if nrB G D p k then 0 else 1 from rfl)
          obtain ⟨b, hb⟩ : ∃ b, b = nrB G D p k := ⟨_, rfl⟩
          rw [← hb] at hcall HWS
          obtain ⟨c, hcc⟩ : ∃ c, c = wct G D p k := ⟨_, rfl⟩
          rw [← hcc] at hwle HWS
          have HCC := Lib.hid hcc
          clear hb hcc
          cases b with
          | true =>
            have HN := Lib.hid (show wct G D p (k + 1) = wct G D p k by rw [HWS.out, HCC.out]; rfl)
            go_wp2_with (go_at_call 72; refine hcall.mono ?_; rintro e w3 ⟨rfl, hb3⟩; have HR3 := Lib.hid (HR'.out.below hb3 HR'.out.lt))
            go_roundw
            case rel => exact ⟨k + 1, by omega, by go_num, hB'.trans (hb3.mono hB'.size), Lib.hid (HR3.out.congr fun i _ => by simp only [intV, wrF, HN.out])⟩
            case measure => simp [intOf] <;> omega
          | false =>
            have HN := Lib.hid (show wct G D p (k + 1) = c + 1 by rw [HWS.out]; rfl)
            have hcv : (wrF G D p k p) = (c : Int) := by rw [wrF, if_neg (Nat.lt_irrefl _), if_pos rfl, HCC.out]
            go_wp2_with (go_at_call 72; refine hcall.mono ?_; rintro e w3 ⟨rfl, hb3⟩; have HR3 := Lib.hid (HR'.out.below hb3 HR'.out.lt); have r0 : w3.cell? ⟨w.heap.size + 1, p, none⟩ = some (.int .i64 (c : Int)) := (HR3.out.at_ hlt).trans (by simp only [intV]; rw [hcv]); have f0 : w3.frozen? ⟨w.heap.size + 1, p, none⟩ = false := HR3.out.free p; have s3 := HR3.out.lt)
            go_roundw
            case rel => exact ⟨k + 1, by omega, by go_num, (hB'.trans (hb3.mono hB'.size)).grown (grown_setCell _ _ _) (by have := hB'.size; have := hb3.size; omega) (fun j hj => by injection hj with hj; rw [← hj, hs1]; exact Nat.le_refl _), Lib.hid (intV_set HR3.out fun i _ => by
              unfold wrF
              by_cases e1 : i = p
              · subst e1; rw [if_pos rfl, if_neg (Nat.lt_irrefl _), if_pos rfl, HN.out]; simp
              · rw [if_neg e1]
                by_cases e2 : i < p
                · rw [if_pos e2, if_pos e2]
                · rw [if_neg e2, if_neg e2, if_neg e1, if_neg e1])⟩
            case measure => simp [intOf] <;> omega
        · obtain rfl : k = n := by omega
          go_wp2_with fail
          go_roundw
          case rel => exact ⟨p + 1, by omega, by go_num, hB', Lib.hid (HR'.out.congr fun i _ => by
            simp only [intV]
            congr 1
            unfold wrF
            rcases Nat.lt_trichotomy i p with h | rfl | h
            · rw [if_pos h, if_pos (by omega)]
            · rw [if_neg (Nat.lt_irrefl _), if_pos rfl, if_pos (by omega), HWL.out]
            · rw [if_neg (by omega), if_neg (by omega), if_neg (by omega)]
              split <;> rfl)⟩
          case measure => simp [intOf] <;> omega
    · obtain rfl : p = G.length := by omega
      go_wp2_with fail
      go_ret
      refine ⟨_, _, rfl, ?_, HB1.out.trans (hB.mono HB1.out.size)⟩
      have hi := HR.out.ints
      have e : (List.range G.length).map (wrF G D G.length 0) = wrL G D := List.map_congr_left fun i hi => by rw [wrF, if_pos (List.mem_range.1 hi)]
      rw [e] at hi
      exact hi
end Go.Proofs.Ytehoaenkkmmobaa
