/-
  Mathematics of water: the cells to which it comes, and the leaks, by one name for both answers.
-/
import Derived.Test.YtglkjiimmlobbaaPzWetN
import Derived.Test.YtglkjiimmlobbaaPzRowF
namespace Go.Proofs.Ytglkjiimmlobbaa
open Go.RowKit Go.Shelf
/-- the cells to which water comes -/
noncomputable def wetC (W H : Nat) (op : Nat → Nat) (fr : Nat) : Nat → Bool := fun x => @decide (Rch W H op fr x) (Classical.propDecidable _)
noncomputable def lkC (W H : Nat) (op : Nat → Nat) (fr : Nat) : Nat := sumW (fun x => lkF W H op x 0) (wetC W H op fr) 9
theorem wetC_iff {W H : Nat} {op : Nat → Nat} {fr x : Nat} : wetC W H op fr x = true ↔ Rch W H op fr x := by
  unfold wetC
  exact @decide_eq_true_iff _ (Classical.propDecidable _)
theorem shut_closed {W H : Nat} {op : Nat → Nat} {S : Nat → Bool} (hS : Shut W H op S) {a x : Nat} (hr : Rch W H op a x) (ha : S a = true) : S x = true := by
  induction hr with
  | refl c => exact ha
  | head h1 h2 _ ih => exact ih (hS _ _ _ ha h1 h2)
theorem wet_of {W H : Nat} {op : Nat → Nat} {fr : Nat} {S : Nat → Bool} (h1 : S fr = true) (h2 : ∀ x, S x = true → Rch W H op fr x) (h3 : Shut W H op S) : S = wetC W H op fr := by
  funext x
  rw [Bool.eq_iff_iff, wetC_iff]
  exact ⟨h2 x, fun h => shut_closed h3 h h1⟩
theorem spr_eq {W H : Nat} {op : Nat → Nat} {fr m : Nat} {T : Nat → Bool} (h : Spr W H op (fun _ => false) 0 fr T m) : T = wetC W H op fr ∧ m = lkC W H op fr := by
  have e : T = wetC W H op fr := wet_of h.here (fun x hx => (h.only x hx).resolve_left (by simp)) (fun x t y h1 h2 h3 => h.shut x t y h1 rfl h2 h3)
  refine ⟨e, ?_⟩
  have h1 := h.sum
  rw [sumW_none] at h1
  rw [lkC, ← e]
  omega
theorem stp_eq {W H : Nat} {op : Nat → Nat} {fr k : Nat} {U : Nat → Bool} (hN : W * H ≤ 9) (hfr : fr < W * H) (g : Stp W H op fr (W * H) U k) : U = wetC W H op fr ∧ k = lkC W H op fr := by
  have hU := g.last rfl
  have e : U = wetC W H op fr := wet_of g.here g.only hU.1
  refine ⟨e, ?_⟩
  rw [lkC, ← e, sumW_cut _ U (W * H) 9 hN (fun x hx => (g.only x hx).lt hfr)]
  exact hU.2
theorem sumW_most (f : Nat → Nat) (S : Nat → Bool) (b n : Nat) (h : ∀ x, f x ≤ b) : sumW f S n ≤ b * n := by
  induction n with
  | zero => exact Nat.zero_le _
  | succ n ih =>
    simp only [sumW]
    have h1 := h n
    rw [Nat.mul_succ]
    split <;> omega
theorem lkC_le (W H : Nat) (op : Nat → Nat) (fr : Nat) : lkC W H op fr ≤ 36 := sumW_most _ _ 4 9 fun x => lkF_le W H op x 0
theorem wetC_lt {W H : Nat} {op : Nat → Nat} {fr x : Nat} (hfr : fr < W * H) (h : wetC W H op fr x = true) : x < W * H := (wetC_iff.1 h).lt hfr
/-- the contract of water, by these names -/
theorem water_w (W H fr N : Nat) (tt : Int) (A1 A2 : Option Addr) (c1 c2 : Nat) (ps ts : List Int) (w : World) (hW : 1 ≤ W) (hW9 : W ≤ 9) (hH : H ≤ 9) (hNW : N = W * H) (hN : N ≤ 9) (hfr : fr < N) (hpl : ps.length = N) (htl : ts.length = N) (hp : Nums 15 ps) (ht : Nums 3 ts)
    (hx : IntsR w w.heap.size A1 ps) (hy : IntsR w w.heap.size A2 ts) :
    Calls Try.prog 96 #[pipesV W H fr tt A1 N c1, .slice A2 N c2] w fun e w' => e = .returned (.agg (fcells (wetC W H (opF ps ts N) fr) (lkC W H (opF ps ts N) fr))) ∧ Below w.heap.size w w' := by
  refine (water_any W H fr N tt A1 A2 c1 c2 ps ts w hW hW9 hH hNW hN hfr hpl htl hp ht hx hy).mono ?_
  rintro e w' ⟨T, m, rfl, hS, hB⟩
  obtain ⟨rfl, rfl⟩ := spr_eq hS
  exact ⟨rfl, hB⟩
end Go.Proofs.Ytglkjiimmlobbaa
