/-
  LAYER 6: the document's gcd; pure: its weights.
-/
import Derived.Test.YtehoaenkkmmobaaSrGp
namespace Go.Proofs.Ytehoaenkkmmobaa
open Go.RowKit Go.Shelf
set_option maxRecDepth 100000 in
set_option maxHeartbeats 2000000 in
theorem rgcd_any (a b : Nat) (w : World) (ha : a ≤ 2 ^ 62) (hb : b ≤ 2 ^ 62) :
    Calls Try.prog 57 #[I a, I b] w fun e w' => e = .returned (I (Nat.gcd a b : Nat)) ∧ Below w.heap.size w w' := by
  obtain ⟨G, hG⟩ : ∃ G, G = Nat.gcd a b := ⟨_, rfl⟩
  rw [← hG]
  go_enter Try.func57, Try.ntmps57
  go_wp2_with fail
  go_loopw [0, 1] (fun x y wr => ∃ p q : Nat, x = .int .i64 p ∧ y = .int .i64 q ∧ p ≤ 2 ^ 62 ∧ q ≤ 2 ^ 62 ∧ Hid (G = Nat.gcd p q) ∧ Below w.heap.size w wr) (fun _ y _ => (intOf y).toNat)
  case atStart => exact ⟨a, b, rfl, rfl, ha, hb, Lib.hid hG, Below.refl _ _⟩
  case round =>
    obtain ⟨p, q, rfl, rfl, hp, hq, HG, hB⟩ := hrel
    by_cases h0 : q = 0
    · subst h0
      have HN := Lib.hid (show p = G by rw [HG.out, Nat.gcd_zero_right])
      go_wp2_with fail
      go_ret
      rw [HN.out]
      exact ⟨rfl, hB⟩
    · have hrem : ((p : Int)).tmod (q : Int) = ((p % q : Nat) : Int) := Int.ofNat_tmod _ _
      have hlt := Nat.mod_lt p (show 0 < q by omega)
      have c0 : decide ((0 : Int) < (q : Int)) = true := decide_eq_true (by omega)
      have c0' : decide (0 < q) = true := decide_eq_true (by omega)
      have c2 : ((q : Int) == 0) = false := by simp; omega
      have c3 : decide ((q : Int) = 0) = false := decide_eq_false (by omega)
      have c4 : ¬ (q : Int) = 0 := by omega
      have c5 : ¬ q = 0 := h0
      have HN := Lib.hid (show G = Nat.gcd q (p % q) by rw [HG.out, Nat.gcd_comm p q, Nat.gcd_rec, Nat.gcd_comm])
      obtain ⟨r, hr⟩ : ∃ r, r = p % q := ⟨_, rfl⟩
      rw [← hr] at hrem hlt HN
      clear hr h0
      go_wp2_with fail
      go_roundw
      case rel => exact ⟨q, r, rfl, rfl, hq, by omega, HN, hB⟩
      case measure => simp [intOf]; omega
/-- what is common to the first k positions, as the document counts it -/
def cmn (G : List (List Ed)) (D : List Int) (m k : Nat) : Nat := if 0 < m then prtT G D k else 1
theorem cmn_pos (G : List (List Ed)) (D : List Int) (m k : Nat) : 1 ≤ cmn G D m k := by
  unfold cmn; split
  · exact prtT_pos G D k
  · exact Nat.le_refl _
theorem cmn_same {G : List (List Ed)} {D : List Int} {m k : Nat} (h : m = 0 ∨ stay (eOf G) (dOf D) k = true) : cmn G D m (k + 1) = cmn G D m k := by
  unfold cmn
  rcases h with rfl | h
  · rfl
  · split
    · rw [prtT, if_neg (by rw [h]; simp)]
    · rfl
theorem cmn_more {G : List (List Ed)} {D : List Int} {m k : Nat} (hm : 0 < m) (h : stay (eOf G) (dOf D) k = false) (hc : cmn G D m k ≤ 1000000000000000) : cmn G D m (k + 1) = cmn G D m k / Nat.gcd (cmn G D m k) (nE G k) * nE G k := by
  unfold cmn at hc ⊢
  rw [if_pos hm] at hc ⊢
  rw [if_pos hm, prtT, if_pos ⟨h, hc⟩]
  obtain ⟨u, hu⟩ := Nat.gcd_dvd_left (prtT G D k) (nE G k)
  obtain ⟨v, hv⟩ := Nat.gcd_dvd_right (prtT G D k) (nE G k)
  have hg : 0 < Nat.gcd (prtT G D k) (nE G k) := Nat.gcd_pos_of_pos_left _ (prtT_pos G D k)
  obtain ⟨g, hgg⟩ : ∃ g, g = Nat.gcd (prtT G D k) (nE G k) := ⟨_, rfl⟩
  rw [← hgg] at hu hv hg ⊢
  have e1 : prtT G D k / g = u := Nat.div_eq_of_eq_mul_right hg hu
  have e2 : nE G k / g = v := Nat.div_eq_of_eq_mul_right hg hv
  rw [e1, e2, hu, hv]
  rw [Nat.mul_comm g u, Nat.mul_assoc]
theorem prtT_mono (G : List (List Ed)) (D : List Int) : ∀ n k, k ≤ n → prtT G D k ≤ prtT G D n := by
  intro n
  induction n with
  | zero => intro k h; have : k = 0 := by omega
            subst this; exact Nat.le_refl _
  | succ n ih =>
    intro k h
    by_cases e : k = n + 1
    · subst e; exact Nat.le_refl _
    · refine Nat.le_trans (ih k (by omega)) ?_
      rw [prtT]
      split
      · rename_i h
        have h0 := stay_ne h.1
        have hg := Nat.gcd_pos_of_pos_right (prtT G D n) h0
        have : 1 ≤ nE G n / Nat.gcd (prtT G D n) (nE G n) := by
          rw [Nat.le_div_iff_mul_le hg, Nat.one_mul]
          exact Nat.gcd_le_right _ h0
        exact Nat.le_mul_of_pos_right _ this
      · exact Nat.le_refl _
theorem pow_lo {P m k : Nat} (hP : 1 ≤ P) (h : k ≤ m) (hk : 1000000000000000 < P ^ k) : ¬ P ^ m ≤ 1000000000000000 := fun h2 => by
  have := Nat.pow_le_pow_right hP h
  omega
theorem cmn_many {G : List (List Ed)} {D : List Int} {m k : Nat} (hm : 0 < m) (hk : k ≤ G.length) (h : 1000000000000000 < cmn G D m k) : ¬ prtN G D ^ m ≤ 1000000000000000 := by
  unfold cmn at h
  rw [if_pos hm] at h
  have h1 := prtT_mono G D G.length k hk
  refine pow_lo (k := 1) (prtT_pos G D G.length) hm ?_
  rw [Nat.pow_one]
  show _ < prtT G D G.length
  omega
theorem cmn_pow (G : List (List Ed)) (D : List Int) (m : Nat) : cmn G D m G.length ^ m = prtN G D ^ m := by
  unfold cmn
  split
  · rfl
  · have : m = 0 := by omega
    subst this; rfl
theorem cmn_prt {G : List (List Ed)} {D : List Int} {m : Nat} (hm : 0 < m) : cmn G D m G.length = prtN G D := by
  unfold cmn; rw [if_pos hm]; rfl
section
variable {G : List (List Ed)} {D : List Int} {P T Q : Nat} {W : Nat → Nat}
/-- bounds of the document's weights -/
theorem mvE_bndQ (hv : Vld G D) (hd : Div G D P) (hW : tot G.length W = T) (hT : T * P * Q ≤ 1000000000000000) {p : Nat} (hp : p < G.length) (hs : stay (eOf G) (dOf D) p = false) {k : Nat} (hk : k < nE G p) (c : Nat) (hc : c < G.length) :
    mvE G p (W p * (P / nE G p)) (mvP G D W P p) k c * Q + W p * (P / nE G p) * Q ≤ 1000000000000000 := by
  have h1 := tot_mvE hv (x := W p * (P / nE G p)) hp (mvP G D W P p) (k + 1) hk
  have h0 := tot_mvE hv (x := W p * (P / nE G p)) hp (mvP G D W P p) k (by omega)
  have h2 := le_tot (F := mvE G p (W p * (P / nE G p)) (mvP G D W P p) k) G.length c hc
  have h3 := tot_mvE hv (x := W p * (P / nE G p)) hp (mvP G D W P p) (nE G p) (Nat.le_refl _)
  have h4 := tot_mvP hv hd W (p + 1) hp
  rw [mvP_go hs] at h4
  have h5 : tot (p + 1) W * P ≤ T * P := Nat.mul_le_mul_right _ (hW ▸ tot_le _ _ hp)
  have h6 : (k + 1) * (W p * (P / nE G p)) ≤ nE G p * (W p * (P / nE G p)) := Nat.mul_le_mul_right _ hk
  have h7 : (k + 1) * (W p * (P / nE G p)) = k * (W p * (P / nE G p)) + W p * (P / nE G p) := by rw [Nat.add_mul]; omega
  rw [← Nat.add_mul]
  refine Nat.le_trans (Nat.mul_le_mul_right Q ?_) hT
  omega
theorem mvP_bndQ (hv : Vld G D) (hd : Div G D P) (hW : tot G.length W = T) (hT : T * P * Q ≤ 1000000000000000) {p : Nat} (hp : p < G.length) (c : Nat) (hc : c < G.length) :
    mvP G D W P p c * Q + W p * (P * Q) ≤ 1000000000000000 := by
  have h1 := tot_mvP hv hd W p (by omega)
  have h2 := le_tot (F := mvP G D W P p) G.length c hc
  have h5 : tot (p + 1) W * P ≤ T * P := Nat.mul_le_mul_right _ (hW ▸ tot_le _ _ hp)
  have h6 : tot (p + 1) W * P = tot p W * P + W p * P := by rw [tot, Nat.add_mul]
  rw [← Nat.mul_assoc, ← Nat.add_mul]
  refine Nat.le_trans (Nat.mul_le_mul_right Q ?_) hT
  omega
end
/-- a share of the document's -/
theorem share {x P Q n : Nat} (hn : n ∣ P) (h0 : 0 < n) : x * (P * Q) / n = x * (P / n) * Q := by
  obtain ⟨q, rfl⟩ := hn
  rw [Nat.mul_div_cancel_left _ h0]
  have e : x * (n * q * Q) = n * (x * q * Q) := by
    rw [Nat.mul_assoc n, Nat.mul_left_comm, Nat.mul_assoc x]
  rw [e, Nat.mul_div_cancel_left _ h0]
theorem finN_mul {D : List Int} {W : Nat → Nat} {Q : Nat} : ∀ n, finN D (fun c => W c * Q) n = finN D W n * Q := by
  intro n
  induction n with
  | zero => simp [finN]
  | succ n ih => rw [finN, finN, ih, Nat.add_mul]; split <;> simp
end Go.Proofs.Ytehoaenkkmmobaa
