/-
  LAYER 6, PURE: how the probability of finishing by chance grows.
-/
import Derived.Test.YtehoaenkkmmobaaSrCn
import Derived.Test.YtehoaenkkmmobaaSrLx
import Derived.Test.YtehoaenkkmmobaaSrRea
namespace Go.Proofs.Ytehoaenkkmmobaa
open Go.RowKit Go.Shelf
theorem addN_ge (F : Nat → Nat) (q x c : Nat) : F c ≤ addN F q x c := by
  unfold addN; split <;> omega
theorem mvE_ge (G : List (List Ed)) (p x : Nat) (F : Nat → Nat) (c : Nat) : ∀ k, F c ≤ mvE G p x F k c := by
  intro k
  induction k with
  | zero => exact Nat.le_refl _
  | succ k ih => exact Nat.le_trans ih (addN_ge _ _ _ _)
theorem mvE_got (G : List (List Ed)) (p x : Nat) (F : Nat → Nat) {e : Nat} : ∀ k, e < k → F (tgt (eOf G) p e) + x ≤ mvE G p x F k (tgt (eOf G) p e) := by
  intro k
  induction k with
  | zero => intro h; omega
  | succ k ih =>
    intro h
    by_cases hk : e = k
    · subst hk
      rw [mvE, addN, if_pos rfl]
      have := mvE_ge G p x F (tgt (eOf G) p e) e
      omega
    · exact Nat.le_trans (ih (by omega)) (addN_ge _ _ _ _)
theorem mvE_from (G : List (List Ed)) (p x : Nat) (F : Nat → Nat) (c : Nat) : ∀ k, 0 < mvE G p x F k c → 0 < F c ∨ (0 < x ∧ ∃ e, e < k ∧ tgt (eOf G) p e = c) := by
  intro k
  induction k with
  | zero => intro h; exact .inl h
  | succ k ih =>
    intro h
    rw [mvE, addN] at h
    split at h
    · rename_i e
      by_cases hx : 0 < x
      · exact .inr ⟨hx, k, by omega, e.symm⟩
      · rcases ih (by omega) with h1 | ⟨h1, j, h2, h3⟩
        · exact .inl h1
        · exact .inr ⟨h1, j, by omega, h3⟩
    · rcases ih h with h1 | ⟨h1, j, h2, h3⟩
      · exact .inl h1
      · exact .inr ⟨h1, j, by omega, h3⟩
section
variable {G : List (List Ed)} {D : List Int} {W : Nat → Nat} {P : Nat}
theorem mvP_mono (c : Nat) : ∀ n k, k ≤ n → mvP G D W P k c ≤ mvP G D W P n c := by
  intro n
  induction n with
  | zero => intro k h; have : k = 0 := by omega
            subst this; exact Nat.le_refl _
  | succ n ih =>
    intro k h
    by_cases e : k = n + 1
    · subst e; exact Nat.le_refl _
    · refine Nat.le_trans (ih k (by omega)) ?_
      cases hs : stay (eOf G) (dOf D) n with
      | true => rw [mvP_stay hs]; exact addN_ge _ _ _ _
      | false => rw [mvP_go hs]; exact mvE_ge _ _ _ _ _ _
theorem mvP_stays {c : Nat} (hs : stay (eOf G) (dOf D) c = true) {n : Nat} (hc : c < n) : W c * P ≤ mvP G D W P n c := by
  refine Nat.le_trans ?_ (mvP_mono c n (c + 1) hc)
  rw [mvP_stay hs, addN, if_pos rfl]
  omega
theorem mvP_goes {p e : Nat} (hs : stay (eOf G) (dOf D) p = false) (he : e < nE G p) {n : Nat} (hp : p < n) : W p * (P / nE G p) ≤ mvP G D W P n (tgt (eOf G) p e) := by
  refine Nat.le_trans ?_ (mvP_mono _ n (p + 1) hp)
  rw [mvP_go hs]
  have := mvE_got G p (W p * (P / nE G p)) (mvP G D W P p) (e := e) (nE G p) he
  omega
theorem mvP_from (c : Nat) : ∀ n, 0 < mvP G D W P n c → ∃ p, p < n ∧ 0 < W p ∧ ((stay (eOf G) (dOf D) p = true ∧ p = c) ∨ (stay (eOf G) (dOf D) p = false ∧ ∃ e, e < nE G p ∧ tgt (eOf G) p e = c)) := by
  intro n
  induction n with
  | zero => intro h; exact absurd h (Nat.lt_irrefl 0)
  | succ n ih =>
    intro h
    have up : 0 < mvP G D W P n c → ∃ p, p < n + 1 ∧ 0 < W p ∧ ((stay (eOf G) (dOf D) p = true ∧ p = c) ∨ (stay (eOf G) (dOf D) p = false ∧ ∃ e, e < nE G p ∧ tgt (eOf G) p e = c)) := fun h => by
      obtain ⟨p, h1, h2, h3⟩ := ih h
      exact ⟨p, by omega, h2, h3⟩
    cases hs : stay (eOf G) (dOf D) n with
    | true =>
      rw [mvP_stay hs, addN] at h
      split at h
      · rename_i e
        by_cases hw : 0 < W n
        · exact ⟨n, by omega, hw, .inl ⟨hs, e.symm⟩⟩
        · have : W n = 0 := by omega
          rw [this, Nat.zero_mul] at h
          exact up h
      · exact up h
    | false =>
      rw [mvP_go hs] at h
      rcases mvE_from _ _ _ _ _ _ h with h1 | ⟨h1, e, h2, h3⟩
      · exact up h1
      · exact ⟨n, by omega, Nat.pos_of_mul_pos_right h1, .inr ⟨hs, e, h2, h3⟩⟩
end
theorem finN_pos {D : List Int} {W : Nat → Nat} {c : Nat} : ∀ n, c < n → dOf D c = 0 → W c ≤ finN D W n := by
  intro n
  induction n with
  | zero => intro h; omega
  | succ n ih =>
    intro h hd
    rw [finN]
    by_cases e : c = n
    · subst e; rw [hd]; simp
    · have := ih (by omega) hd; omega
theorem finN_from {D : List Int} {W : Nat → Nat} : ∀ n, 0 < finN D W n → ∃ c, c < n ∧ dOf D c = 0 ∧ 0 < W c := by
  intro n
  induction n with
  | zero => intro h; exact absurd h (Nat.lt_irrefl 0)
  | succ n ih =>
    intro h
    rw [finN] at h
    by_cases hd : dOf D n = 0
    · by_cases hw : 0 < W n
      · exact ⟨n, by omega, hd, hw⟩
      · have : W n = 0 := by omega
        rw [this] at h
        obtain ⟨c, h1, h2⟩ := ih (by simpa using h)
        exact ⟨c, by omega, h2⟩
    · have : (dOf D n == 0) = false := beq_eq_false_iff_ne.2 hd
      rw [this] at h
      obtain ⟨c, h1, h2⟩ := ih (by simpa using h)
      exact ⟨c, by omega, h2⟩
theorem finN_mono {D : List Int} {W W' : Nat → Nat} {P : Nat} : ∀ n, (∀ c, c < n → dOf D c = 0 → W c * P ≤ W' c) → finN D W n * P ≤ finN D W' n := by
  intro n
  induction n with
  | zero => intro _; simp [finN]
  | succ n ih =>
    intro h
    rw [finN, finN, Nat.add_mul]
    have h1 := ih fun c hc => h c (by omega)
    by_cases hd : dOf D n = 0
    · have h2 := h n (by omega) hd
      have e : (dOf D n == 0) = true := by rw [hd]; rfl
      rw [e, if_pos rfl, if_pos rfl]
      omega
    · have e : (dOf D n == 0) = false := beq_eq_false_iff_ne.2 hd
      rw [e, if_neg (by simp), if_neg (by simp)]
      omega
theorem stay_fin {E : Nat → List Nat} {d : Nat → Int} {p : Nat} (h : d p = 0) : stay E d p = true := by rw [stay, h]; rfl
/-- with one more move at least as much -/
theorem chN_grow (G : List (List Ed)) (D : List Int) (m : Nat) : chN G D m * prtN G D ≤ chN G D (m + 1) := by
  refine finN_mono _ fun c hc hd => ?_
  rw [wtN]
  exact mvP_stays (stay_fin hd) hc
/-- who is finished has not gone less than the distance -/
theorem wt_lo {G : List (List Ed)} {D : List Int} (hv : Vld G D) (ho : okB G D = true) (P : Nat) : ∀ m c, 0 < wtN G D P m c → 0 ≤ dOf D c → 0 ≤ dOf D 0 ∧ dOf D 0 ≤ m + dOf D c := by
  intro m
  induction m with
  | zero =>
    intro c h h0
    simp only [wtN] at h
    split at h
    · rename_i e
      subst e
      omega
    · omega
  | succ m ih =>
    intro c h h0
    rw [wtN] at h
    obtain ⟨p, hp, hw, h1⟩ := mvP_from _ _ h
    rcases h1 with ⟨-, rfl⟩ | ⟨hs, e, he, rfl⟩
    · have := ih p hw h0
      omega
    · have hn := near_of hv ho p hp e (by rw [eOf_len_gAt]; exact he) h0
      have := ih p hw hn.1
      omega
/-- where the shortest way leads lies a weight -/
theorem wt_way {G : List (List Ed)} {D : List Int} (hv : Vld G D) (ho : okB G D = true) {P : Nat} (hP : 1 ≤ P) (hd : Div G D P) : ∀ j : Nat, (j : Int) ≤ dOf D 0 → ∃ c, c < G.length ∧ dOf D c = dOf D 0 - j ∧ 0 < wtN G D P j c := by
  intro j
  induction j with
  | zero => intro _; exact ⟨0, hv.pos, by omega, by simp [wtN]⟩
  | succ j ih =>
    intro hj
    obtain ⟨c, h1, h2, h3⟩ := ih (by omega)
    have hpos : 0 < nth D c := by
      show 0 < dOf D c
      rw [h2]; omega
    obtain ⟨e, he1, he2⟩ := near_ex hv ho h1 hpos
    rw [nrB, Bool.and_eq_true, beq_iff_eq] at he2
    have hlen : e < nE G c := by rw [eOf_len_gAt] at he1; exact he1
    have hs : stay (eOf G) (dOf D) c = false := by
      rw [stay]
      have e1 : (dOf D c == 0) = false := beq_eq_false_iff_ne.2 (by show nth D c ≠ 0; omega)
      rw [e1, Bool.false_or]
      cases hq : eOf G c with
      | nil => rw [hq] at he1; simp at he1
      | cons a b => rfl
    have hlt := (eOf_tgt hv h1 (by rw [← eOf_len h1]; exact he1)).2
    refine ⟨tgt (eOf G) c e, hlt, ?_, ?_⟩
    · show nth D _ = _
      rw [he2.2]
      have h2' : nth D c = dOf D 0 - j := h2
      rw [h2']
      omega
    · rw [wtN]
      refine Nat.lt_of_lt_of_le ?_ (mvP_goes hs hlen h1)
      have hdv := hd c h1 hs
      have hn0 : 0 < nE G c := by omega
      exact Nat.mul_pos h3 (Nat.div_pos (Nat.le_of_dvd hP hdv) hn0)
theorem wt_stays {G : List (List Ed)} {D : List Int} {P : Nat} (hP : 1 ≤ P) {c : Nat} (hc : c < G.length) (h : dOf D c = 0) {j : Nat} (hw : 0 < wtN G D P j c) : ∀ m, j ≤ m → 0 < wtN G D P m c := by
  intro m
  induction m with
  | zero => intro hm; have : j = 0 := by omega
            subst this; exact hw
  | succ m ih =>
    intro hm
    by_cases e : j = m + 1
    · subst e; exact hw
    · rw [wtN]
      exact Nat.lt_of_lt_of_le (Nat.mul_pos (ih (by omega)) hP) (mvP_stays (stay_fin h) hc)
theorem chN_pos {G : List (List Ed)} {D : List Int} (hv : Vld G D) (ho : okB G D = true) {m : Nat} (hle : prtN G D ^ m ≤ 1000000000000000) : 0 < chN G D m ↔ 0 ≤ dOf D 0 ∧ dOf D 0 ≤ m := by
  have hP : 1 ≤ prtN G D := prtT_pos G D G.length
  constructor
  · intro h
    obtain ⟨c, h1, h2, h3⟩ := finN_from _ h
    have := wt_lo hv ho _ m c h3 (by omega)
    omega
  · rintro ⟨h0, h1⟩
    unfold chN
    obtain ⟨δ, hδ⟩ : ∃ δ : Nat, (δ : Int) = dOf D 0 := ⟨(dOf D 0).toNat, by omega⟩
    have hw : ∃ c, c < G.length ∧ dOf D c = 0 ∧ 0 < wtN G D (prtN G D) δ c := by
      rcases Nat.eq_zero_or_pos m with hm | hm
      · have : δ = 0 := by omega
        subst this
        exact ⟨0, hv.pos, by omega, by simp [wtN]⟩
      · have h2 : prtN G D ^ 1 ≤ prtN G D ^ m := Nat.pow_le_pow_right hP hm
        rw [Nat.pow_one] at h2
        obtain ⟨c, a1, a2, a3⟩ := wt_way hv ho hP (div_prt (by omega)) δ (by omega)
        exact ⟨c, a1, by omega, a3⟩
    obtain ⟨c, a1, a2, a3⟩ := hw
    have := wt_stays hP a1 a2 a3 m (by omega)
    have := finN_pos (W := wtN G D (prtN G D) m) _ a1 a2
    omega
theorem chN_le {G : List (List Ed)} {D : List Int} (hv : Vld G D) {m : Nat} (hle : prtN G D ^ m ≤ 1000000000000000) : chN G D m ≤ prtN G D ^ m := by
  have hP : 1 ≤ prtN G D := prtT_pos G D G.length
  refine Nat.le_trans (finN_le _ _ _) (Nat.le_of_eq (tot_wt0 hv ?_))
  rcases Nat.eq_zero_or_pos m with hm | hm
  · exact .inl hm
  · have h2 : prtN G D ^ 1 ≤ prtN G D ^ m := Nat.pow_le_pow_right hP hm
    rw [Nat.pow_one] at h2
    exact .inr (div_prt (by omega))
/-- what the law asks of one fraction -/
theorem grow_one {G : List (List Ed)} {D : List Int} (hv : Vld G D) (ho : okB G D = true) {m : Nat} (hle : prtN G D ^ m ≤ 1000000000000000) :
    1 ≤ chcB G D m ∧ chcB G D m ≤ 1000000000000000 ∧ chcA G D m ≤ chcB G D m ∧ (0 < chcA G D m ↔ 0 ≤ dOf D 0 ∧ dOf D 0 ≤ m) ∧ ∀ k, 2 ≤ k → ¬ (chcA G D m % k = 0 ∧ chcB G D m % k = 0) := by
  have hP : 1 ≤ prtN G D := prtT_pos G D G.length
  have hM : 1 ≤ prtN G D ^ m := Nat.one_le_pow _ _ hP
  have hN := chN_le hv hle
  have hpos := chN_pos hv ho hle
  unfold chcA chcB
  obtain ⟨M, hM'⟩ : ∃ M, M = prtN G D ^ m := ⟨_, rfl⟩
  obtain ⟨N, hN'⟩ : ∃ N, N = chN G D m := ⟨_, rfl⟩
  rw [← hM'] at hle hM hN ⊢
  rw [← hN'] at hN hpos ⊢
  have hg : 0 < Nat.gcd N M := Nat.gcd_pos_of_pos_right _ hM
  have hgl : Nat.gcd N M ≤ M := Nat.gcd_le_right _ hM
  have c := Nat.coprime_div_gcd_div_gcd hg
  refine ⟨Nat.div_pos hgl hg, Nat.le_trans (Nat.div_le_self _ _) hle, Nat.div_le_div_right hN, ?_, ?_⟩
  · rw [← hpos]
    constructor
    · intro h
      rcases Nat.eq_zero_or_pos N with h1 | h1
      · rw [h1, Nat.zero_div] at h; omega
      · exact h1
    · intro h
      exact Nat.div_pos (Nat.gcd_le_left _ h) hg
  · rintro k hk ⟨h1, h2⟩
    have hd := Nat.dvd_gcd (Nat.dvd_of_mod_eq_zero h1) (Nat.dvd_of_mod_eq_zero h2)
    rw [Nat.Coprime] at c
    rw [c] at hd
    have := Nat.le_of_dvd (by omega) hd
    omega
/-- and of two -/
theorem grow_two (G : List (List Ed)) (D : List Int) (m : Nat) : chcA G D m * chcB G D (m + 1) ≤ chcA G D (m + 1) * chcB G D m := by
  have hP : 1 ≤ prtN G D := prtT_pos G D G.length
  have hM1 : 1 ≤ prtN G D ^ m := Nat.one_le_pow _ _ hP
  have hM2 : 1 ≤ prtN G D ^ (m + 1) := Nat.one_le_pow _ _ hP
  have hgr := chN_grow G D m
  unfold chcA chcB
  have hpw : prtN G D ^ (m + 1) = prtN G D ^ m * prtN G D := Nat.pow_succ ..
  obtain ⟨M, hM'⟩ : ∃ M, M = prtN G D ^ m := ⟨_, rfl⟩
  obtain ⟨M2, hM2'⟩ : ∃ M2, M2 = prtN G D ^ (m + 1) := ⟨_, rfl⟩
  obtain ⟨N, hN'⟩ : ∃ N, N = chN G D m := ⟨_, rfl⟩
  obtain ⟨N2, hN2'⟩ : ∃ N2, N2 = chN G D (m + 1) := ⟨_, rfl⟩
  rw [← hM2', ← hM'] at hpw
  rw [← hM'] at hM1
  rw [← hM2'] at hM2
  rw [← hN', ← hN2'] at hgr
  rw [← hM', ← hM2', ← hN', ← hN2']
  have e1 := Nat.div_mul_cancel (Nat.gcd_dvd_left N M)
  have e2 := Nat.div_mul_cancel (Nat.gcd_dvd_right N M)
  have e3 := Nat.div_mul_cancel (Nat.gcd_dvd_left N2 M2)
  have e4 := Nat.div_mul_cancel (Nat.gcd_dvd_right N2 M2)
  have hg1 : 0 < Nat.gcd N M := Nat.gcd_pos_of_pos_right _ hM1
  have hg2 : 0 < Nat.gcd N2 M2 := Nat.gcd_pos_of_pos_right _ hM2
  have hX : N * M2 ≤ N2 * M := by
    rw [hpw]
    calc N * (M * prtN G D) = N * prtN G D * M := by rw [Nat.mul_comm M, ← Nat.mul_assoc]
      _ ≤ N2 * M := Nat.mul_le_mul_right _ hgr
  obtain ⟨g, hg⟩ : ∃ g, g = Nat.gcd N M := ⟨_, rfl⟩
  obtain ⟨g2, hgg⟩ : ∃ g2, g2 = Nat.gcd N2 M2 := ⟨_, rfl⟩
  rw [← hg] at e1 e2 hg1 ⊢
  rw [← hgg] at e3 e4 hg2 ⊢
  obtain ⟨a, ha⟩ : ∃ a, a = N / g := ⟨_, rfl⟩
  obtain ⟨b, hb⟩ : ∃ b, b = M / g := ⟨_, rfl⟩
  obtain ⟨a2, ha2⟩ : ∃ a2, a2 = N2 / g2 := ⟨_, rfl⟩
  obtain ⟨b2, hb2⟩ : ∃ b2, b2 = M2 / g2 := ⟨_, rfl⟩
  rw [← ha, ← hb, ← ha2, ← hb2]
  rw [← ha] at e1
  rw [← hb] at e2
  rw [← ha2] at e3
  rw [← hb2] at e4
  rw [← e1, ← e2, ← e3, ← e4] at hX
  refine Nat.le_of_mul_le_mul_right (c := g * g2) ?_ (Nat.mul_pos hg1 hg2)
  have l : a * b2 * (g * g2) = a * g * (b2 * g2) := by rw [Nat.mul_mul_mul_comm]
  have r : a2 * b * (g * g2) = a2 * g2 * (b * g) := by rw [Nat.mul_comm g g2, Nat.mul_mul_mul_comm]
  rw [l, r]
  exact hX
end Go.Proofs.Ytehoaenkkmmobaa
