/-
  LAYER 6, pure: weights and a move of them.
-/
import Derived.Test.YtehoaenkkmmobaaSrPa
namespace Go.Proofs.Ytehoaenkkmmobaa
open Go.RowKit Go.Shelf
def addN (F : Nat → Nat) (q x : Nat) : Nat → Nat := fun c => if c = q then F c + x else F c
/-- the total of the first n -/
def tot : Nat → (Nat → Nat) → Nat
  | 0, _ => 0
  | n + 1, F => tot n F + F n
theorem tot_congr {F F' : Nat → Nat} : ∀ n, (∀ c, c < n → F c = F' c) → tot n F = tot n F' := by
  intro n
  induction n with
  | zero => intro _; rfl
  | succ n ih => intro h; rw [tot, tot, ih fun c hc => h c (by omega), h n (by omega)]
theorem tot_zero : ∀ n, tot n (fun _ => 0) = 0 := by
  intro n
  induction n with
  | zero => rfl
  | succ n ih => rw [tot, ih]
theorem tot_add (F : Nat → Nat) (q x : Nat) : ∀ n, q < n → tot n (addN F q x) = tot n F + x := by
  intro n
  induction n with
  | zero => intro h; omega
  | succ n ih =>
    intro h
    rw [tot, tot]
    by_cases e : q = n
    · subst e
      rw [tot_congr (F := addN F q x) (F' := F) q fun c hc => by rw [addN, if_neg (by omega)]]
      rw [addN, if_pos rfl]
      omega
    · rw [ih (by omega), addN, if_neg (by omega)]
      omega
theorem le_tot {F : Nat → Nat} : ∀ n c, c < n → F c ≤ tot n F := by
  intro n
  induction n with
  | zero => intro c h; omega
  | succ n ih =>
    intro c h
    rw [tot]
    by_cases e : c = n
    · subst e; omega
    · have := ih c (by omega); omega
/-- a position's first k edges have had their share x -/
def mvE (G : List (List Ed)) (p x : Nat) (F : Nat → Nat) : Nat → Nat → Nat
  | 0 => F
  | k + 1 => addN (mvE G p x F k) (tgt (eOf G) p k) x
theorem tot_mvE {G : List (List Ed)} {D : List Int} (hv : Vld G D) {p x : Nat} (hp : p < G.length) (F : Nat → Nat) : ∀ k, k ≤ nE G p → tot G.length (mvE G p x F k) = tot G.length F + k * x := by
  intro k
  induction k with
  | zero => intro _; simp [mvE]
  | succ k ih =>
    intro hk
    have hk' : k < G[p].length := by rw [nE, gAt_eq hp] at hk; omega
    rw [mvE, tot_add _ _ _ _ (eOf_tgt hv hp hk').2, ih (by omega), Nat.add_mul]
    omega
/-- the first k positions have given their weight on -/
def mvP (G : List (List Ed)) (D : List Int) (W : Nat → Nat) (P : Nat) : Nat → Nat → Nat
  | 0 => fun _ => 0
  | k + 1 => if stay (eOf G) (dOf D) k then addN (mvP G D W P k) k (W k * P) else mvE G k (W k * (P / nE G k)) (mvP G D W P k) (nE G k)
theorem mvP_stay {G : List (List Ed)} {D : List Int} {W : Nat → Nat} {P k : Nat} (h : stay (eOf G) (dOf D) k = true) : mvP G D W P (k + 1) = addN (mvP G D W P k) k (W k * P) := by rw [mvP, if_pos h]
theorem mvP_go {G : List (List Ed)} {D : List Int} {W : Nat → Nat} {P k : Nat} (h : stay (eOf G) (dOf D) k = false) : mvP G D W P (k + 1) = mvE G k (W k * (P / nE G k)) (mvP G D W P k) (nE G k) := by rw [mvP, if_neg (by rw [h]; simp)]
def Div (G : List (List Ed)) (D : List Int) (P : Nat) : Prop := ∀ p, p < G.length → stay (eOf G) (dOf D) p = false → nE G p ∣ P
theorem tot_mvP {G : List (List Ed)} {D : List Int} (hv : Vld G D) {P : Nat} (hd : Div G D P) (W : Nat → Nat) : ∀ k, k ≤ G.length → tot G.length (mvP G D W P k) = tot k W * P := by
  intro k
  induction k with
  | zero => intro _; simp [mvP, tot, tot_zero]
  | succ k ih =>
    intro hk
    rw [tot, Nat.add_mul]
    cases hs : stay (eOf G) (dOf D) k with
    | true => rw [mvP_stay hs, tot_add _ _ _ _ hk, ih (by omega)]
    | false =>
      rw [mvP_go hs, tot_mvE hv hk _ _ (Nat.le_refl _), ih (by omega)]
      have h1 := hd k hk hs
      have : nE G k * (W k * (P / nE G k)) = W k * P := by
        rw [Nat.mul_left_comm, Nat.mul_div_cancel' h1]
      omega
theorem tot_le {F : Nat → Nat} : ∀ n k, k ≤ n → tot k F ≤ tot n F := by
  intro n
  induction n with
  | zero => intro k h; have : k = 0 := by omega
            subst this; exact Nat.le_refl _
  | succ n ih =>
    intro k h
    by_cases e : k = n + 1
    · subst e; exact Nat.le_refl _
    · rw [tot]; have := ih k (by omega); omega
/-- what lies in a row while a position goes -/
theorem mvE_bnd {G : List (List Ed)} {D : List Int} (hv : Vld G D) {P T : Nat} (hd : Div G D P) {W : Nat → Nat} (hW : tot G.length W = T) (hT : T * P ≤ 1000000000000000) {p : Nat} (hp : p < G.length) (hs : stay (eOf G) (dOf D) p = false) {k : Nat} (hk : k < nE G p) (c : Nat) (hc : c < G.length) :
    mvE G p (W p * (P / nE G p)) (mvP G D W P p) k c + W p * (P / nE G p) ≤ 1000000000000000 := by
  have h1 := tot_mvE hv (x := W p * (P / nE G p)) hp (mvP G D W P p) (k + 1) hk
  have h0 := tot_mvE hv (x := W p * (P / nE G p)) hp (mvP G D W P p) k (by omega)
  have h2 := le_tot (F := mvE G p (W p * (P / nE G p)) (mvP G D W P p) k) G.length c hc
  have h3 := tot_mvE hv (x := W p * (P / nE G p)) hp (mvP G D W P p) (nE G p) (Nat.le_refl _)
  have h4 := tot_mvP hv hd W (p + 1) hp
  rw [mvP_go hs] at h4
  have h5 : tot (p + 1) W * P ≤ T * P := Nat.mul_le_mul_right _ (hW ▸ tot_le _ _ hp)
  have h6 : (k + 1) * (W p * (P / nE G p)) ≤ nE G p * (W p * (P / nE G p)) := Nat.mul_le_mul_right _ hk
  have h7 : (k + 1) * (W p * (P / nE G p)) = k * (W p * (P / nE G p)) + W p * (P / nE G p) := by rw [Nat.add_mul]; omega
  omega
theorem mvP_bnd {G : List (List Ed)} {D : List Int} (hv : Vld G D) {P T : Nat} (hd : Div G D P) {W : Nat → Nat} (hW : tot G.length W = T) (hT : T * P ≤ 1000000000000000) {p : Nat} (hp : p < G.length) (c : Nat) (hc : c < G.length) :
    mvP G D W P p c + W p * P ≤ 1000000000000000 := by
  have h1 := tot_mvP hv hd W p (by omega)
  have h2 := le_tot (F := mvP G D W P p) G.length c hc
  have h5 : tot (p + 1) W * P ≤ T * P := Nat.mul_le_mul_right _ (hW ▸ tot_le _ _ hp)
  have h6 : tot (p + 1) W * P = tot p W * P + W p * P := by rw [tot, Nat.add_mul]
  omega
end Go.Proofs.Ytehoaenkkmmobaa
