/-
  LAYER 6, CONTRACTS: steps, allSteps, Mean.
-/
import Derived.Test.YtehoaenkkmmobaaSrAa
namespace Go.Proofs.Ytehoaenkkmmobaa
open Go.RowKit Go.Shelf
theorem runS_len (E : Nat → List Nat) (n tu mo : Nat) (d : Nat → Int) : ∀ f s, (runS E n tu mo d f s).trail.length ≤ s.trail.length + f := by
  intro f
  induction f with
  | zero => intro s; exact Nat.le_refl _
  | succ f ih =>
    intro s
    rw [runS]
    split
    · omega
    · have := ih (stpP E n tu mo s)
      have e : (stpP E n tu mo s).trail.length = s.trail.length + 1 := by simp [stpP]
      omega
theorem endS_len (G : List (List Ed)) (D : List Int) (mo tu most : Int) : (endS G D mo tu most).trail.length ≤ most.toNat := by
  have := runS_len (eOf G) G.length tu.toNat mo.toNat (dOf D) most.toNat iniP
  rw [show iniP.trail.length = 0 from rfl, Nat.zero_add] at this
  exact this
def lenS (G : List (List Ed)) (D : List Int) (mo most : Int) (t : Nat) : Nat := (endS G D mo t most).trail.length
def dnS (G : List (List Ed)) (D : List Int) (mo most : Int) (t : Nat) : Bool := dOf D (endS G D mo t most).at_ == 0
def stpD (G : List (List Ed)) (D : List Int) (mo most : Int) : Bool := (List.range (turN G)).all (dnS G D mo most)
def stpL (G : List (List Ed)) (D : List Int) (mo most : Int) : List Nat := (List.range (turN G)).map (lenS G D mo most)
theorem search_int (AP AE AD : Option Addr) (nP cP cE cD : Nat) (G : List (List Ed)) (D : List Int) (mo tu most : Int) (w : World) (hm : MdR w AE AD G D) (hv : Vld G D) (h1 : 0 ≤ mo ∧ mo ≤ 200) (h2 : 0 ≤ tu ∧ tu ≤ 99) (h3 : 0 ≤ most ∧ most ≤ 2000) :
    Calls Try.prog 59 #[mdlV (.slice AP nP cP) AE AD G.length cE D.length cD, .agg #[I mo, I tu], I most] w fun e w' => ∃ v, e = .returned (.tuple #[v, .bool (dOf D (endS G D mo tu most).at_ == 0)]) ∧ TrR w' w.heap.size v (endS G D mo tu most).trail ∧ Below w.heap.size w w' := by
  have h := search_any AP AE AD nP cP cE cD tu.toNat mo.toNat most.toNat G D w hm hv (by omega) (by omega) (by omega)
  rw [show ((mo.toNat : Nat) : Int) = mo by omega, show ((tu.toNat : Nat) : Int) = tu by omega, show ((most.toNat : Nat) : Int) = most by omega] at h
  exact h
set_option maxRecDepth 100000 in
set_option maxHeartbeats 4000000 in
theorem steps_any (AP AE AD : Option Addr) (nP cP cE cD : Nat) (G : List (List Ed)) (D : List Int) (mo most : Int) (w : World) (hm : MdR w AE AD G D) (hv : Vld G D) (h1 : 0 ≤ mo ∧ mo ≤ 200) (h3 : 0 ≤ most ∧ most ≤ 2000) :
    Calls Try.prog 87 #[mdlV (.slice AP nP cP) AE AD G.length cE D.length cD, I mo, I most] w fun e w' => ∃ v, e = .returned (.tuple #[v, .bool (stpD G D mo most)]) ∧ (stpD G D mo most = true → TrR w' w.heap.size v (stpL G D mo most)) ∧ (stpD G D mo most = false → v = .slice none 0 0) ∧ Below w.heap.size w w' := by
  obtain ⟨w1, hw1, hs1, y0, hb1⟩ := one_box w (.cells #[.slice AP nP cP, .slice AE G.length cE, .slice AD D.length cD] 64)
  have a0 : w1.cell? ⟨w.heap.size, 0, none⟩ = some (.slice AP nP cP) := cell_of_row w1 _ 0 _ _ _ y0
  have a1 : w1.cell? ⟨w.heap.size, 1, none⟩ = some (.slice AE G.length cE) := cell_of_row w1 _ 1 _ _ _ y0
  have a2 : w1.cell? ⟨w.heap.size, 2, none⟩ = some (.slice AD D.length cD) := cell_of_row w1 _ 2 _ _ _ y0
  have s0 : w.heap.size < w1.heap.size := by omega
  have htn := turns_any (.slice AP nP cP) AE AD cE cD G D w1 (hm.call hb1) hv
  have hbn := turN_bnd hv
  have hse : ∀ V t, Below w1.heap.size w1 V → t < turN G → Calls Try.prog 59 #[mdlV (.slice AP nP cP) AE AD G.length cE D.length cD, .agg #[I mo, I t], I most] V fun e w' => ∃ v, e = .returned (.tuple #[v, .bool (dnS G D mo most t)]) ∧ TrR w' V.heap.size v (endS G D mo t most).trail ∧ Below V.heap.size V w' := fun V t hV ht =>
    search_int AP AE AD nP cP cE cD G D mo t most V ((hm.call hb1).call hV) hv h1 (by omega) h3
  have HSE := Lib.hid hse
  have HB1 := Lib.hid hb1
  obtain ⟨T, hT⟩ : ∃ T, T = turN G := ⟨_, rfl⟩
  rw [← hT] at htn hbn HSE
  have HT := Lib.hid hT
  clear hm hv y0 hb1 hse hT h1 h3
  go_enter Try.func87, Try.ntmps87
  go_upto_region 1 with fail
  rw [← hw1]
  clear hw1
  go_wp2_with (go_at_call 106; refine htn.mono ?_; rintro e w2 ⟨rfl, hb2⟩)
  go_loopw [13, 6] (fun i l wr => ∃ k : Nat, k ≤ T ∧ i = .int .i64 k ∧ TrR wr w1.heap.size l ((List.range k).map (lenS G D mo most)) ∧ Below w1.heap.size w1 wr ∧ Hid ((List.range k).all (dnS G D mo most) = true)) (fun i _ _ => T - (intOf i).toNat)
  case atStart => exact ⟨0, Nat.zero_le _, rfl, .inl ⟨rfl, rfl⟩, hb2, Lib.hid rfl⟩
  case round =>
    obtain ⟨k, hk, rfl, hR, hB, HA⟩ := hrel
    obtain ⟨wo, hwo⟩ : ∃ wo : World, wo = wr := ⟨_, rfl⟩
    rw [← hwo] at hB hR
    rw [← hwo]
    clear hwo
    by_cases hlt : k < T
    · have b0 := (hB.cell (p := ⟨w.heap.size, 0, none⟩) s0).trans a0
      have b1 := (hB.cell (p := ⟨w.heap.size, 1, none⟩) s0).trans a1
      have b2 := (hB.cell (p := ⟨w.heap.size, 2, none⟩) s0).trans a2
      have hcall := HSE.out wo k hB hlt
      obtain ⟨dn, hdn⟩ : ∃ dn, dn = dnS G D mo most k := ⟨_, rfl⟩
      rw [← hdn] at hcall
      have HR := Lib.hid hR
      clear hR
      cases dn with
      | false =>
        have HN := Lib.hid (show stpD G D mo most = false by
          rw [stpD, List.all_eq_false]
          exact ⟨k, List.mem_range.2 (by rw [← HT.out]; exact hlt), by rw [← hdn]; simp⟩)
        clear hdn
        go_wp2_with (go_at_call 59; refine hcall.mono ?_; rintro e w3 ⟨v, rfl, ht3, hb3⟩)
        go_ret2
        rw [HN.out]
        exact ⟨_, rfl, fun h => absurd h (by simp), fun _ => rfl, HB1.out.trans ((hB.trans (hb3.mono hB.size)).mono HB1.out.size)⟩
      | true =>
        have HY := Lib.hid (range_all_succ HA.out hdn.symm)
        have HL : (endS G D mo k most).trail.length = lenS G D mo most k := rfl
        clear hdn
        go_upto_region 7 with (go_at_call 59; refine hcall.mono ?_; rintro e w3 ⟨v, rfl, ht3, hb3⟩; obtain ⟨A3, c3, e3⟩ := ht3.len; subst e3; clear ht3)
        have hB3 := hB.trans (hb3.mono hB.size)
        have hBa := hB3.alloc (by have := hb3.size; have := hB.size; omega) (.cells #[I (lenS G D mo most k)] 3)
        have hTa : TrR (w3.alloc (.cells #[I (lenS G D mo most k)] 3)) w1.heap.size u6 ((List.range k).map (lenS G D mo most)) := (HR.out.call hb3).call ((Below.refl _ _).alloc (Nat.le_refl _) _)
        have hca : (w3.alloc (.cells #[I (lenS G D mo most k)] 3)).cell? ⟨w3.heap.size, 0, none⟩ = some (I (lenS G D mo most k)) := alloc_cell _ _ _ 0
        have hba : w1.heap.size ≤ (w3.alloc (.cells #[I (lenS G D mo most k)] 3)).heap.size := hBa.size
        have HBA := Lib.hid hBa
        have HTA := Lib.hid hTa
        clear HL hB3 hBa
        go_wp2_with (at_builtin; refine wpList_append_t rfl _ _ rfl w1.heap.size u6 ((List.range k).map (lenS G D mo most)) rfl hTa w3.heap.size 1 (lenS G D mo most k) rfl hca (by simp; omega) hba ?_; intro v' w4 hq4 hg4 ho4)
        go_roundw
        case rel => exact ⟨k + 1, by omega, by go_num, by rw [List.range_succ, List.map_append]; exact .inr hq4, HBA.out.grown hg4 hba (fun j hj => by
          rcases HTA.out with ⟨rfl, -⟩ | h
          · simp [Value.ownBlock] at hj
          · exact (h.block hj).1), HY⟩
        case measure => simp [intOf]; omega
    · obtain rfl : k = T := by omega
      have HN := Lib.hid (show stpD G D mo most = true by rw [stpD, ← HT.out]; exact HA.out)
      have HLL := Lib.hid (show (List.range k).map (lenS G D mo most) = stpL G D mo most by rw [stpL, ← HT.out])
      have HR := Lib.hid hR
      clear hR
      go_wp2_with fail
      go_ret2
      rw [HN.out, ← HLL.out]
      exact ⟨_, rfl, fun _ => HR.out.rebase (by omega), fun h => absurd h (by simp), HB1.out.trans (hB.mono HB1.out.size)⟩
theorem TrR.ints {w : World} {base : Nat} {v : Value} {L : List Nat} (h : TrR w base v L) : ∃ A c, v = .slice A L.length c ∧ IntsR w w.heap.size A (numI L) := by
  rcases h with ⟨rfl, rfl⟩ | ⟨g, off, c, cur, rfl, h1, h2, h3, h4, h5, h6⟩
  · exact ⟨none, 0, rfl, IntsR.nil⟩
  · refine ⟨some ⟨g, off, none⟩, c, by rw [numI_length], fun _ => ⟨_, rfl, (Array.getElem?_eq_some_iff.1 h3).1, fun j hj => ?_⟩⟩
    have hadd : (⟨g, off, none⟩ : Addr).add j = ⟨g, off + j, none⟩ := by unfold Addr.add; split <;> simp_all
    rw [hadd]
    have h3' : w.heap[g]? = some (.cells cur 3 (0, 0)) := h3
    have := cell_of_row w g (off + j) cur _ _ h3'
    rw [this]
    exact h6 j hj
/-- the error of Mean and Worst -/
def meanE (nP : Nat) (G : List (List Ed)) (D : List Int) (mo most : Int) : Int := if srchE nP G D mo 0 most = 0 then unlE (stpD G D mo most) 3 else srchE nP G D mo 0 most
set_option maxRecDepth 100000 in
set_option maxHeartbeats 4000000 in
theorem allSteps_any (AP AE AD : Option Addr) (nP cP cE cD : Nat) (G : List (List Ed)) (D : List Int) (mo most : Int) (w : World) (hm : MdR w AE AD G D) (hz : Szd nP G D) :
    Calls Try.prog 62 #[mdlV (.slice AP nP cP) AE AD G.length cE D.length cD, I mo, I most] w fun e w' => ∃ v, e = .returned (.tuple #[v, I (meanE nP G D mo most)]) ∧ (meanE nP G D mo most = 0 → TrR w' w.heap.size v (stpL G D mo most)) ∧ (meanE nP G D mo most ≠ 0 → v = .slice none 0 0) ∧ Below w.heap.size w w' := by
  obtain ⟨w1, hw1, hs1, y0, hb1⟩ := one_box w (.cells #[.slice AP nP cP, .slice AE G.length cE, .slice AD D.length cD] 64)
  have a0 : w1.cell? ⟨w.heap.size, 0, none⟩ = some (.slice AP nP cP) := cell_of_row w1 _ 0 _ _ _ y0
  have a1 : w1.cell? ⟨w.heap.size, 1, none⟩ = some (.slice AE G.length cE) := cell_of_row w1 _ 1 _ _ _ y0
  have a2 : w1.cell? ⟨w.heap.size, 2, none⟩ = some (.slice AD D.length cD) := cell_of_row w1 _ 2 _ _ _ y0
  have s0 : w.heap.size < w1.heap.size := by omega
  have hck := checkSearch_any AP AE AD nP cP cE cD G D mo 0 most w1 (hm.call hb1) hz
  have HB1 := Lib.hid hb1
  by_cases h0 : srchE nP G D mo 0 most = 0
  · obtain ⟨hmap, hmnd⟩ := srchE_zero h0
    obtain ⟨rfl, hv, -⟩ := mapB_vld hmap
    simp only [mndB, wi, Bool.and_eq_true, decide_eq_true_eq] at hmnd
    have hst := fun V (hV : Below w1.heap.size w1 V) => steps_any AP AE AD G.length cP cE cD G D mo most V ((hm.call hb1).call hV) hv (by omega) (by omega)
    obtain ⟨dn, hdn⟩ : ∃ dn, dn = stpD G D mo most := ⟨_, rfl⟩
    have HME : meanE G.length G D mo most = unlE dn 3 := by rw [meanE, if_pos h0, hdn]
    obtain ⟨ME, hME⟩ : ∃ ME, ME = meanE G.length G D mo most := ⟨_, rfl⟩
    have hun : ∀ V, Calls Try.prog 51 #[.bool dn, I 3] V fun e w' => e = .returned (I ME) ∧ w' = V := fun V => by rw [hME, HME]; exact unlE_any dn 3 V
    rw [← hdn] at hst
    rw [← hME]
    rw [← hME] at HME
    rw [h0] at hck
    obtain ⟨L, hL⟩ : ∃ L, L = stpL G D mo most := ⟨_, rfl⟩
    rw [← hL] at hst
    rw [← hL]
    have HST := Lib.hid hst
    have HMX := Lib.hid HME
    clear hm hz y0 hb1 h0 hmap hmnd hv hst hdn hME HME hL
    go_enter Try.func62, Try.ntmps62
    go_upto_region 1 with fail
    rw [← hw1]
    clear hw1
    go_wp2_with (first
      | (go_at_call 58; refine hck.mono ?_; rintro e w2 ⟨rfl, hb2⟩; have b0 := (hb2.cell (p := ⟨w.heap.size, 0, none⟩) s0).trans a0; have b1 := (hb2.cell (p := ⟨w.heap.size, 1, none⟩) s0).trans a1; have b2 := (hb2.cell (p := ⟨w.heap.size, 2, none⟩) s0).trans a2; have hst' := HST.out _ hb2)
      | (go_at_call 87; refine hst'.mono ?_; rintro e w3 ⟨v, rfl, ht, hn, hb3⟩; have HT := Lib.hid ht; have HN := Lib.hid hn; clear ht hn)
      | (go_at_call 51; refine (hun _).mono ?_; rintro e w' ⟨rfl, rfl⟩))
    go_ret2
    have hB2 := HB1.out.trans (hb2.mono HB1.out.size)
    refine ⟨_, rfl, fun h => ?_, fun h => ?_, hB2.trans (hb3.mono hB2.size)⟩
    · rw [HMX.out] at h
      cases dn with
      | true => exact (HT.out rfl).rebase hB2.size
      | false => exact absurd h (by simp [unlE])
    · rw [HMX.out] at h
      cases dn with
      | false => exact HN.out rfl
      | true => exact absurd rfl h
  · have HME := Lib.hid (show meanE nP G D mo most = srchE nP G D mo 0 most by rw [meanE, if_neg h0])
    obtain ⟨E, hE⟩ : ∃ E, E = srchE nP G D mo 0 most := ⟨_, rfl⟩
    rw [← hE] at hck h0 HME
    have q1 : (E != 0) = true := by simpa using h0
    have q2 : decide (E = 0) = false := decide_eq_false h0
    have H0 := Lib.hid h0
    clear hm hz y0 hb1 h0 hE
    go_enter Try.func62, Try.ntmps62
    go_upto_region 1 with fail
    rw [← hw1]
    clear hw1
    go_wp2_with (go_at_call 58; refine hck.mono ?_; rintro e w2 ⟨rfl, hb2⟩)
    go_ret2
    rw [HME.out]
    exact ⟨_, rfl, fun h => absurd h H0.out, fun _ => rfl, HB1.out.trans (hb2.mono HB1.out.size)⟩
def meanN (G : List (List Ed)) (D : List Int) (mo most : Int) : Nat := (stpL G D mo most).sum / Nat.gcd (stpL G D mo most).sum (stpL G D mo most).length
def meanD (G : List (List Ed)) (D : List Int) (mo most : Int) : Nat := (stpL G D mo most).length / Nat.gcd (stpL G D mo most).sum (stpL G D mo most).length
theorem meanE_zero {nP : Nat} {G : List (List Ed)} {D : List Int} {mo most : Int} (h : meanE nP G D mo most = 0) : srchE nP G D mo 0 most = 0 ∧ stpD G D mo most = true := by
  unfold meanE at h
  split at h
  · rename_i h0
    cases q : stpD G D mo most
    · rw [q] at h; exact absurd h (by simp [unlE])
    · exact ⟨h0, rfl⟩
  · exact absurd h (by assumption)
theorem stpL_len (G : List (List Ed)) (D : List Int) (mo most : Int) : (stpL G D mo most).length = turN G := by simp [stpL]
theorem stpL_le {G : List (List Ed)} {D : List Int} {mo most : Int} (h : most ≤ 2000) : ∀ x ∈ stpL G D mo most, x ≤ 2000 := fun x hx => by
  rw [stpL, List.mem_map] at hx
  obtain ⟨t, -, rfl⟩ := hx
  have := endS_len G D mo t most
  unfold lenS
  omega
theorem sum_bnd {B : Nat} : ∀ {L : List Nat}, (∀ x ∈ L, x ≤ B) → L.sum ≤ B * L.length := by
  intro L
  induction L with
  | nil => intro _; simp
  | cons a t ih =>
    intro h
    have h1 := h a (by simp)
    have h2 := ih (fun x hx => h x (by simp [hx]))
    rw [List.sum_cons, List.length_cons, Nat.mul_succ]
    omega
set_option maxRecDepth 100000 in
set_option maxHeartbeats 4000000 in
theorem Mean_ok (AP AE AD : Option Addr) (nP cP cE cD : Nat) (G : List (List Ed)) (D : List Int) (mo most : Int) (w : World) (hm : MdR w AE AD G D) (hz : Szd nP G D) (h0 : meanE nP G D mo most = 0) :
    Calls Try.prog 35 #[grV AP AE nP cP G.length cE, .slice AD D.length cD, I mo, I most] w fun e w' => e = .returned (.tuple #[I (meanN G D mo most), I (meanD G D mo most), I 0]) ∧ Below w.heap.size w w' := by
  obtain ⟨w1, hw1, hs1, y0, hb1⟩ := one_box w (.cells #[.slice AP nP cP, .slice AE G.length cE] 25)
  have a0 : w1.cell? ⟨w.heap.size, 0, none⟩ = some (.slice AP nP cP) := cell_of_row w1 _ 0 _ _ _ y0
  have a1 : w1.cell? ⟨w.heap.size, 1, none⟩ = some (.slice AE G.length cE) := cell_of_row w1 _ 1 _ _ _ y0
  have hall := allSteps_any AP AE AD nP cP cE cD G D mo most w1 (hm.call hb1) hz
  rw [h0] at hall
  obtain ⟨hs0, hst⟩ := meanE_zero h0
  obtain ⟨hmap, hmnd⟩ := srchE_zero hs0
  obtain ⟨rfl, hv, -⟩ := mapB_vld hmap
  simp only [mndB, wi, Bool.and_eq_true, decide_eq_true_eq] at hmnd
  have hlen := stpL_len G D mo most
  have hb := turN_bnd hv
  have hle : ∀ x ∈ stpL G D mo most, x ≤ 2000 := stpL_le (by omega)
  have hsb := sum_bnd hle
  obtain ⟨L, hL⟩ : ∃ L, L = stpL G D mo most := ⟨_, rfl⟩
  have HN : meanN G D mo most = L.sum / Nat.gcd L.sum L.length := by rw [hL]; rfl
  have HD : meanD G D mo most = L.length / Nat.gcd L.sum L.length := by rw [hL]; rfl
  rw [← hL] at hall hlen hle hsb
  rw [HN, HD]
  have hlow := fun V => lowest_any L.sum L.length V (by omega) (by omega) (by omega)
  have hsu := fun (A : Option Addr) (c : Nat) (V : World) (hx : IntsR V V.heap.size A (numI L)) => sum_any A c L V hx (by omega) (fun x hx => Nat.le_trans (hle x hx) (by omega))
  obtain ⟨n, hn⟩ : ∃ n : Nat, n = L.sum / Nat.gcd L.sum L.length := ⟨_, rfl⟩
  obtain ⟨d, hd⟩ : ∃ d : Nat, d = L.length / Nat.gcd L.sum L.length := ⟨_, rfl⟩
  rw [← hn, ← hd] at hlow
  rw [← hn, ← hd]
  have HB1 := Lib.hid hb1
  have HSU := Lib.hid hsu
  have HLOW := Lib.hid hlow
  clear hm hz y0 hb1 h0 hs0 hst hmap hmnd hv hlen hb hle hsb hL HN HD hn hd hsu hlow
  go_enter Try.func35, Try.ntmps35
  go_upto_region 1 with fail
  rw [← hw1]
  clear hw1
  go_wp2_with (first
    | (go_at_call 62; refine hall.mono ?_; rintro e w2 ⟨v, rfl, ht, -, hb2⟩; obtain ⟨A2, c2, e2, hx2⟩ := (ht rfl).ints; subst e2; have hsu2 := HSU.out A2 c2 w2 hx2; clear ht hx2)
    | (go_at_call 67; refine hsu2.mono ?_; rintro e w' ⟨rfl, rfl⟩; have hlow2 := HLOW.out w')
    | (go_at_call 66; refine hlow2.mono ?_; rintro e w3 ⟨rfl, hb3⟩))
  go_ret3
  have hB2 := HB1.out.trans (hb2.mono HB1.out.size)
  exact ⟨rfl, hB2.trans (hb3.mono hB2.size)⟩
set_option maxRecDepth 100000 in
set_option maxHeartbeats 4000000 in
theorem Mean_err (AP AE AD : Option Addr) (nP cP cE cD : Nat) (G : List (List Ed)) (D : List Int) (mo most : Int) (w : World) (hm : MdR w AE AD G D) (hz : Szd nP G D) (h0 : meanE nP G D mo most ≠ 0) :
    Calls Try.prog 35 #[grV AP AE nP cP G.length cE, .slice AD D.length cD, I mo, I most] w fun e w' => e = .returned (.tuple #[I 0, I 0, I (meanE nP G D mo most)]) ∧ Below w.heap.size w w' := by
  obtain ⟨w1, hw1, hs1, y0, hb1⟩ := one_box w (.cells #[.slice AP nP cP, .slice AE G.length cE] 25)
  have a0 : w1.cell? ⟨w.heap.size, 0, none⟩ = some (.slice AP nP cP) := cell_of_row w1 _ 0 _ _ _ y0
  have a1 : w1.cell? ⟨w.heap.size, 1, none⟩ = some (.slice AE G.length cE) := cell_of_row w1 _ 1 _ _ _ y0
  have hall := allSteps_any AP AE AD nP cP cE cD G D mo most w1 (hm.call hb1) hz
  obtain ⟨E, hE⟩ : ∃ E, E = meanE nP G D mo most := ⟨_, rfl⟩
  rw [← hE] at hall h0
  rw [← hE]
  have q1 : (E != 0) = true := by simpa using h0
  have q2 : decide (E = 0) = false := decide_eq_false h0
  have HB1 := Lib.hid hb1
  clear hm hz y0 hb1 h0 hE
  go_enter Try.func35, Try.ntmps35
  go_upto_region 1 with fail
  rw [← hw1]
  clear hw1
  go_wp2_with (go_at_call 62; refine hall.mono ?_; rintro e w2 ⟨v, rfl, -, -, hb2⟩)
  go_ret3
  exact ⟨rfl, HB1.out.trans (hb2.mono HB1.out.size)⟩
end Go.Proofs.Ytehoaenkkmmobaa
