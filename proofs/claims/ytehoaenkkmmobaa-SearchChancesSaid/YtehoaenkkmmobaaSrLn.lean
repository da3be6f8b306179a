/-
  LAYER 6, CONTRACTS: leadsNearer, nearer.
-/
import Derived.BigQuiet
import Derived.Test.YtehoaenkkmmobaaSrZ
namespace Go.Proofs.Ytehoaenkkmmobaa
open Go.RowKit Go.Shelf
theorem plain_addI (g o j : Nat) : (⟨g, o, none⟩ : Addr).add j = ⟨g, o + j, none⟩ := by unfold Addr.add; split <;> simp_all
theorem IntsR.plain {w : World} {B : Nat} {A : Option Addr} {xs : List Int} (h : IntsR w B A xs) (h0 : 0 < xs.length) : ∃ g o : Nat, A = some ⟨g, o, none⟩ ∧ g < B ∧ ∀ j, j < xs.length → w.cell? ⟨g, o + j, none⟩ = some (I (nth xs j)) := by
  obtain ⟨ad, e, hb, hc⟩ := h h0
  obtain ⟨g, o, sp⟩ := ad
  have h1 := hc 0 h0
  have hsp : sp = none := by simpa [Addr.add] using World.cell?_spot h1
  subst hsp
  exact ⟨g, o, e, hb, fun j hj => by rw [← plain_addI]; exact hc j hj⟩
def KeptL (w1 w' : World) (a : Addr) (v : Value) : Prop := KeptW w1 w' ∧ w'.cell? a = some v
theorem keptL_drew {w1 : World} {a : Addr} {v : Value} (hb : a.block < w1.heap.size) (h : w1.cell? a = some v) : KeptL w1 w1.drew a v := ⟨keptW_drew _, ((keptW_drew w1).2 a hb).trans h⟩
theorem keptL_call {w1 w' w2 : World} {a : Addr} {v : Value} (hb : a.block < w1.heap.size) (h : w1.cell? a = some v) (k : KeptL w1 w' a v) (hc : Below w'.heap.size w' w2) : KeptL w1 w2 a v := ⟨keptW_call k.1 hc, ((keptW_call k.1 hc).2 a hb).trans h⟩
/-- whether an edge leads to a distance that is 1 less -/
def nrB (G : List (List Ed)) (D : List Int) (p k : Nat) : Bool := decide (0 < nth D p) && (nth D (tgt (eOf G) p k) == nth D p - 1)
set_option maxRecDepth 100000 in
set_option maxHeartbeats 4000000 in
theorem leads_any (vP : Value) (AE AD : Option Addr) (cE cD : Nat) (G : List (List Ed)) (D : List Int) (p k : Nat) (w : World) (hm : MdR w AE AD G D) (hv : Vld G D) (hp : p < G.length) (hk : k < (eOf G p).length) (hbd : ∀ k, -1 ≤ nth D k ∧ nth D k ≤ 1000) :
    Calls Try.prog 72 #[mdlV vP AE AD G.length cE D.length cD, lkV (p, k)] w fun e w' => e = .returned (.bool (nrB G D p k)) ∧ Below w.heap.size w w' := by
  obtain ⟨w1, hw1, hs1, y0, hb1⟩ := one_box w (.cells #[vP, .slice AE G.length cE, .slice AD D.length cD] 64)
  obtain ⟨w2, hw2, hs2, y1, hb2⟩ := one_box w1 (.cells #[I p, I k] 71)
  have s0 : w.heap.size < w1.heap.size := by omega
  have hB2 := hb1.trans (hb2.mono hb1.size)
  have a0 : w2.cell? ⟨w.heap.size, 0, none⟩ = some vP := (hb2.cell (p := ⟨w.heap.size, 0, none⟩) s0).trans (cell_of_row w1 _ 0 _ _ _ y0)
  have a1 : w2.cell? ⟨w.heap.size, 1, none⟩ = some (.slice AE G.length cE) := (hb2.cell (p := ⟨w.heap.size, 1, none⟩) s0).trans (cell_of_row w1 _ 1 _ _ _ y0)
  have a2 : w2.cell? ⟨w.heap.size, 2, none⟩ = some (.slice AD D.length cD) := (hb2.cell (p := ⟨w.heap.size, 2, none⟩) s0).trans (cell_of_row w1 _ 2 _ _ _ y0)
  rw [hs1] at y1
  have l0 : w2.cell? ⟨w.heap.size + 1, 0, none⟩ = some (I p) := cell_of_row w2 _ 0 _ _ _ y1
  have l1 : w2.cell? ⟨w.heap.size + 1, 1, none⟩ = some (I k) := cell_of_row w2 _ 1 _ _ _ y1
  have hm2 := hm.call hB2
  have hlD := hv.len
  have hmx := hv.many
  have hpD : p < D.length := by omega
  have htg := (eOf_tgt hv hp (by rw [← eOf_len hp]; exact hk)).2
  obtain ⟨t, ht⟩ : ∃ t, t = tgt (eOf G) p k := ⟨_, rfl⟩
  have hbe : ∀ V, KeptW w2 V → Calls Try.prog 98 #[mdlV vP AE AD G.length cE D.length cD, lkV (p, k)] V fun e w' => e = .returned (I t) ∧ Below V.heap.size V w' := fun V hV => by
    rw [ht]
    exact behind_any vP AE AD cE cD G D p k V (hm2.call hV.1) hv hp hk
  rw [← ht] at htg
  have htD : t < D.length := by omega
  obtain ⟨gA, oA, e1, hbA, hcell⟩ := hm2.d.plain (by omega)
  subst e1
  have hcA := hcell p hpD
  have hcT := hcell t htD
  have hb1' := hbd p
  have hb2' := hbd t
  obtain ⟨d, hd⟩ : ∃ d, d = nth D p := ⟨_, rfl⟩
  obtain ⟨e, he⟩ : ∃ e, e = nth D t := ⟨_, rfl⟩
  rw [← hd] at hcA hb1'
  rw [← he] at hcT hb2'
  have HN := Lib.hid (show nrB G D p k = (decide (0 < d) && (e == d - 1)) by rw [nrB, ← ht, ← hd, ← he])
  have HB := Lib.hid hB2
  have W2 := hw2
  rw [hw1] at W2
  have sG : w.heap.size < w2.heap.size := by omega
  have sL : w.heap.size + 1 < w2.heap.size := by omega
  clear hm hm2 hw1 hw2 y0 y1 hb1 hb2 hB2 hbd hcell ht hd he hlD hs1
  by_cases h1 : 0 < d
  · have c1 : decide (0 < d) = true := decide_eq_true h1
    by_cases h2 : e = d - 1
    · have c2 : (e == d - 1) = true := by simp [h2]
      have c2' : decide (e = d - 1) = true := decide_eq_true h2
      have HQ := Lib.hid (show nrB G D p k = true by rw [HN.out, c1, c2]; rfl)
      clear h2
      go_enter Try.func72, Try.ntmps72
      go_upto_region 1 with fail
      rw [← W2]
      clear W2
      go_upto_region 2 with fail
      go_region_held3 (fun w' => (Below w2.heap.size w2 w' ∧ (∀ a : Addr, a.block < w2.heap.size → w'.cell? a = w2.cell? a)) ∧ w'.cell? ⟨gA, oA + t, none⟩ = some (.int .i64 e))
        (first | exact keptL_drew hbA hcT | exact keptL_call hbA hcT (by assumption) hb | assumption)
        ((go_at_call 98; go_must (refine (hbe _ (And.left (by assumption : KeptL w2 _ ⟨gA, oA + t, none⟩ (.int .i64 e)))).mono ?_); rintro e' w' ⟨rfl, hb⟩))
      all_goals
        go_wp2_with fail
        go_ret
        have hK := keptW_below (And.left (by assumption : KeptL w2 _ ⟨gA, oA + t, none⟩ (.int .i64 e)))
        exact ⟨ret_bool (by rw [HQ.out, IntWalk.i64_in _ (by omega), c2]), HB.out.trans (hK.mono HB.out.size)⟩
    · have c2 : (e == d - 1) = false := by simpa using h2
      have c2' : decide (e = d - 1) = false := decide_eq_false h2
      have HQ := Lib.hid (show nrB G D p k = false by rw [HN.out, c1, c2]; rfl)
      clear h2
      go_enter Try.func72, Try.ntmps72
      go_upto_region 1 with fail
      rw [← W2]
      clear W2
      go_upto_region 2 with fail
      go_region_held3 (fun w' => (Below w2.heap.size w2 w' ∧ (∀ a : Addr, a.block < w2.heap.size → w'.cell? a = w2.cell? a)) ∧ w'.cell? ⟨gA, oA + t, none⟩ = some (.int .i64 e))
        (first | exact keptL_drew hbA hcT | exact keptL_call hbA hcT (by assumption) hb | assumption)
        ((go_at_call 98; go_must (refine (hbe _ (And.left (by assumption : KeptL w2 _ ⟨gA, oA + t, none⟩ (.int .i64 e)))).mono ?_); rintro e' w' ⟨rfl, hb⟩))
      all_goals
        go_wp2_with fail
        go_ret
        have hK := keptW_below (And.left (by assumption : KeptL w2 _ ⟨gA, oA + t, none⟩ (.int .i64 e)))
        exact ⟨ret_bool (by rw [HQ.out, IntWalk.i64_in _ (by omega), c2]), HB.out.trans (hK.mono HB.out.size)⟩
  · have c1 : decide (0 < d) = false := decide_eq_false h1
    have HQ := Lib.hid (show nrB G D p k = false by rw [HN.out, c1]; rfl)
    clear h1
    go_enter Try.func72, Try.ntmps72
    go_upto_region 1 with fail
    rw [← W2]
    clear W2
    go_upto_region 2 with fail
    go_quiet (fail)
    all_goals
      go_wp2_with fail
      go_ret
      exact ⟨ret_bool HQ.out.symm, below_drewN HB.out _⟩
/-- the first edge that leads nearer, from k on -/
def nrF (G : List (List Ed)) (D : List Int) (p : Nat) : Nat → Nat → Nat
  | 0, k => k
  | f + 1, k => if nrB G D p k then k else nrF G D p f (k + 1)
theorem nrF_spec {G : List (List Ed)} {D : List Int} {p : Nat} : ∀ f k, (∃ j, k ≤ j ∧ j < k + f ∧ nrB G D p j = true) → nrB G D p (nrF G D p f k) = true ∧ k ≤ nrF G D p f k ∧ nrF G D p f k < k + f ∧ ∀ j, k ≤ j → j < nrF G D p f k → nrB G D p j = false := by
  intro f
  induction f with
  | zero => rintro k ⟨j, h1, h2, -⟩; omega
  | succ f ih =>
    rintro k ⟨j, h1, h2, h3⟩
    rw [nrF]
    cases hq : nrB G D p k with
    | true => rw [if_pos rfl]; exact ⟨hq, Nat.le_refl _, by omega, fun j h1 h2 => by omega⟩
    | false =>
      rw [if_neg (by simp)]
      have hjk : j ≠ k := fun e => by rw [e, hq] at h3; cases h3
      obtain ⟨g1, g2, g3, g4⟩ := ih (k + 1) ⟨j, by omega, by omega, h3⟩
      refine ⟨g1, by omega, by omega, fun i h1 h2 => ?_⟩
      rcases Nat.lt_or_ge i (k + 1) with h | h
      · rw [show i = k by omega, hq]
      · exact g4 i h h2
def nrE (G : List (List Ed)) (D : List Int) (p : Nat) : Nat := nrF G D p (eOf G p).length 0
set_option maxRecDepth 100000 in
set_option maxHeartbeats 4000000 in
theorem nearer_any (AP AE AD : Option Addr) (nP cP cE cD : Nat) (G : List (List Ed)) (D : List Int) (p : Nat) (w : World) (hm : MdR w AE AD G D) (hv : Vld G D) (hp : p < G.length) (hbd : ∀ k, -1 ≤ nth D k ∧ nth D k ≤ 1000) (hex : ∃ j, j < (eOf G p).length ∧ nrB G D p j = true) :
    Calls Try.prog 73 #[mdlV (.slice AP nP cP) AE AD G.length cE D.length cD, I p] w fun e w' => e = .returned (I (tgt (eOf G) p (nrE G D p))) ∧ Below w.heap.size w w' := by
  obtain ⟨w1, hw1, hs1, y0, hb1⟩ := one_box w (.cells #[.slice AP nP cP, .slice AE G.length cE, .slice AD D.length cD] 64)
  have a0 : w1.cell? ⟨w.heap.size, 0, none⟩ = some (.slice AP nP cP) := cell_of_row w1 _ 0 _ _ _ y0
  have a1 : w1.cell? ⟨w.heap.size, 1, none⟩ = some (.slice AE G.length cE) := cell_of_row w1 _ 1 _ _ _ y0
  have a2 : w1.cell? ⟨w.heap.size, 2, none⟩ = some (.slice AD D.length cD) := cell_of_row w1 _ 2 _ _ _ y0
  have s0 : w.heap.size < w1.heap.size := by omega
  obtain ⟨j0, hj0, hj1⟩ := hex
  obtain ⟨n1, -, n3, n4⟩ := nrF_spec (G := G) (D := D) (p := p) (eOf G p).length 0 ⟨j0, by omega, by omega, hj1⟩
  obtain ⟨N, hN⟩ : ∃ N, N = nrE G D p := ⟨_, rfl⟩
  rw [← show nrE G D p = nrF G D p (eOf G p).length 0 from rfl, ← hN] at n1 n3 n4
  rw [← hN]
  have hfw := hv.few p hp
  have hel := eOf_len hp
  have HL := Lib.hid (fun V (k : Nat) (hV : Below w1.heap.size w1 V) (hk : k < (eOf G p).length) => leads_any (.slice AP nP cP) AE AD cE cD G D p k V ((hm.call hb1).call hV) hv hp hk hbd)
  have HBE := Lib.hid (fun V (k : Nat) (hV : Below w1.heap.size w1 V) (hk : k < (eOf G p).length) => behind_any (.slice AP nP cP) AE AD cE cD G D p k V ((hm.call hb1).call hV) hv hp hk)
  have HB1 := Lib.hid hb1
  have N1 := Lib.hid n1
  have N4 := Lib.hid n4
  clear hm hv y0 hb1 hbd hj0 hj1 n1 n4 hN
  go_enter Try.func73, Try.ntmps73
  go_upto_region 1 with fail
  rw [← hw1]
  clear hw1
  go_wp2_with fail
  go_loopw [5] (fun i wr => ∃ k : Nat, k ≤ N ∧ i = .int .i64 k ∧ Below w1.heap.size w1 wr) (fun i _ => N - (intOf i).toNat)
  case atStart => exact ⟨0, Nat.zero_le _, rfl, Below.refl _ _⟩
  case round =>
    obtain ⟨k, hk, rfl, hB⟩ := hrel
    obtain ⟨wo, hwo⟩ : ∃ wo : World, wo = wr := ⟨_, rfl⟩
    rw [← hwo] at hB
    rw [← hwo]
    clear hwo
    have b0 := (hB.cell (p := ⟨w.heap.size, 0, none⟩) s0).trans a0
    have b1 := (hB.cell (p := ⟨w.heap.size, 1, none⟩) s0).trans a1
    have b2 := (hB.cell (p := ⟨w.heap.size, 2, none⟩) s0).trans a2
    have hcall := HL.out wo k hB (by omega)
    by_cases hlt : k < N
    · rw [N4.out k (Nat.zero_le _) hlt] at hcall
      go_wp2_with (go_at_call 72; refine hcall.mono ?_; rintro e w3 ⟨rfl, hb3⟩)
      go_roundw
      case rel => exact ⟨k + 1, by omega, by go_num, hB.trans (hb3.mono hB.size)⟩
      case measure => simp [intOf]; omega
    · obtain rfl : k = N := by omega
      rw [N1.out] at hcall
      go_wp2_with (first
        | (go_at_call 72; refine hcall.mono ?_; rintro e w3 ⟨rfl, hb3'⟩; have hb3 := hB.trans (hb3'.mono hB.size); have hbe3 := HBE.out w3 k hb3 (by omega); clear hb3' b0 b1 b2; have b0 := (hb3.cell (p := ⟨w.heap.size, 0, none⟩) s0).trans a0; have b1 := (hb3.cell (p := ⟨w.heap.size, 1, none⟩) s0).trans a1; have b2 := (hb3.cell (p := ⟨w.heap.size, 2, none⟩) s0).trans a2)
        | (go_at_call 98; refine hbe3.mono ?_; rintro e w4 ⟨rfl, hb4⟩))
      go_ret
      exact ⟨rfl, HB1.out.trans ((hb3.trans (hb4.mono hb3.size)).mono HB1.out.size)⟩
end Go.Proofs.Ytehoaenkkmmobaa
