/-
  LAYER 6, CONTRACTS: waysFrom, spread.
-/
import Derived.Test.YtehoaenkkmmobaaSrA
namespace Go.Proofs.Ytehoaenkkmmobaa
open Go.RowKit Go.Shelf
def numI (l : List Nat) : List Int := l.map fun x : Nat => (x : Int)
theorem numI_snoc (l : List Nat) (x : Nat) : numI (l ++ [x]) = numI l ++ [(x : Int)] := by simp [numI]
theorem numI_length (l : List Nat) : (numI l).length = l.length := by simp [numI]
theorem numI_nth {l : List Nat} {k : Nat} (h : k < l.length) : nth (numI l) k = (l[k] : Nat) := by rw [nth_lt (by rw [numI_length]; exact h)]; simp [numI]
abbrev lkV (l : Lk) : Value := .agg #[I l.1, I l.2]
abbrev zeroL : Value := .agg #[I 0, I 0]
theorem zeroLk (w : World) : (zeroValue 71).run Try.prog w = .ok zeroL w := by kernel_rfl
theorem keyInt : Go.Maps.Keyed Try.prog 3 := Go.Maps.int_keyed Try.underlying3
theorem keyAtI (c : Nat) (hc : c ≤ 1000) : keyOf Try.prog 3 (I c) = some (.int .i64 c) := Go.Maps.keyOf_int_mk Try.underlying3 (WalkArith.wf_i64 (by omega))
/-- how many positions are known -/
def kn (W : Nat → Option Lk) (N : Nat) : Nat := ((List.range N).filter fun x => (W x).isSome).length
theorem kn_le (W : Nat → Option Lk) (N : Nat) : kn W N ≤ N := Nat.le_trans (List.length_filter_le _ _) (by simp)
theorem kn_put {W : Nat → Option Lk} {x : Nat} {l : Lk} (N : Nat) (h : W x = none) : kn (fun y => if y = x then some l else W y) N = kn W N + if x < N then 1 else 0 := by
  induction N with
  | zero => simp [kn]
  | succ N ih =>
    simp only [kn] at ih ⊢
    rw [List.range_succ, List.filter_append, List.filter_append, List.length_append, List.length_append, ih]
    by_cases e : N = x
    · subst e
      simp [h]
    · have e1 : (x < N + 1) = (x < N) := by apply propext; omega
      simp only [List.filter_cons, List.filter_nil, if_neg e, e1]
      omega
/-- the ways, as they lie in memory -/
def WayR (w : World) (B n : Nat) (W : Nat → Option Lk) : Prop := ∃ f, MapG w 3 zeroL B n f ∧ ∀ x : Nat, f (I x) = (W x).map lkV
theorem WayR.kept {w w' : World} {B n : Nat} {W : Nat → Option Lk} {row : Option Nat} (h : WayR w B n W) (hg : w.grownBy w' row) (hne : some B ≠ row) : WayR w' B n W := by
  obtain ⟨f, h1, h2⟩ := h
  exact ⟨f, h1.kept hg hne, h2⟩
theorem WayR.lt {w : World} {B n : Nat} {W : Nat → Option Lk} (h : WayR w B n W) : B < w.heap.size := by
  obtain ⟨f, h1, h2⟩ := h
  exact h1.lt
theorem WayR.below {w w' : World} {B n M : Nat} {W : Nat → Option Lk} (h : WayR w B n W) (hb : Below M w w') (hM : B < M) : WayR w' B n W := by
  obtain ⟨f, h1, h2⟩ := h
  exact ⟨f, h1.below hb hM, h2⟩
theorem WayR.block {w : World} {B n : Nat} {W : Nat → Option Lk} (h : WayR w B n W) : ∃ es c, w.heap[B]? = some (.map es c) := by
  obtain ⟨f, ⟨D, ⟨es, c, h1, _⟩, _⟩, _⟩ := h
  exact ⟨es, c, h1⟩
theorem putW {f : Value → Option Value} {W : Nat → Option Lk} (h : ∀ x : Nat, f (I x) = (W x).map lkV) (x : Nat) (l : Lk) : ∀ y : Nat, updG f (I x) (lkV l) (I y) = ((fun y => if y = x then some l else W y) y).map lkV := fun y => by
  by_cases e : y = x
  · subst e
    rw [updG_self]; simp
  · rw [updG_other (fun e' => e (by injection e' with _ e'; omega)), h y]
    simp [e]
/-- a cell lies in no map -/
theorem cell_not_map {w : World} {B : Nat} (hB : ∃ es c, w.heap[B]? = some (.map es c)) {a : Addr} {v : Value} (h : w.cell? a = some v) : a.block ≠ B := by
  rintro rfl
  obtain ⟨es, c, e⟩ := hB
  simp [World.cell?, e] at h
theorem cell_kp {w w' : World} {B : Nat} (hB : ∃ es c, w.heap[B]? = some (.map es c)) (hg : w.grownBy w' (some B)) {a : Addr} {v : Value} (h : w.cell? a = some v) : w'.cell? a = some v :=
  hg.cell h (fun e => cell_not_map hB h (by injection e))
theorem IntsR.kp {w w' : World} {A : Option Addr} {xs : List Int} {B : Nat} (h : IntsR w w.heap.size A xs) (hB : ∃ es c, w.heap[B]? = some (.map es c)) (hg : w.grownBy w' (some B)) : IntsR w' w'.heap.size A xs := fun h0 => by
  obtain ⟨ad, e, hl, hc⟩ := h h0
  exact ⟨ad, e, Nat.lt_of_lt_of_le hl hg.size, fun j hj => cell_kp hB hg (hc j hj)⟩
theorem EdR.kp {w w' : World} {A : Option Addr} {xs : List Ed} {B : Nat} (h : EdR w w.heap.size A xs) (hB : ∃ es c, w.heap[B]? = some (.map es c)) (hg : w.grownBy w' (some B)) : EdR w' w'.heap.size A xs := fun h0 => by
  obtain ⟨g, o, e, hl, hc⟩ := h h0
  exact ⟨g, o, e, Nat.lt_of_lt_of_le hl hg.size, fun j hj i v hv => cell_kp hB hg (hc j hj i v hv)⟩
theorem MdR.kp {w w' : World} {AE AD : Option Addr} {G : List (List Ed)} {D : List Int} {B : Nat} (h : MdR w AE AD G D) (hB : ∃ es c, w.heap[B]? = some (.map es c)) (hg : w.grownBy w' (some B)) : MdR w' AE AD G D where
  g := fun h0 => by
    obtain ⟨g, o, e, hl, hc⟩ := h.g h0
    refine ⟨g, o, e, Nat.lt_of_lt_of_le hl hg.size, fun p hp => ?_⟩
    obtain ⟨Ap, cp, h1, h2⟩ := hc p hp
    exact ⟨Ap, cp, cell_kp hB hg h1, h2.kp hB hg⟩
  d := h.d.kp hB hg
set_option maxRecDepth 100000 in
theorem waysFrom_any (c : Nat) (N : Nat) (hc : c < N) (hN : N ≤ 300) (w : World) :
    Calls Try.prog 99 #[I c] w fun e w' => ∃ B, e = .returned (.map (some B)) ∧ w.heap.size ≤ B ∧ WayR w' B (kn (waysP c) N) (waysP c) ∧ Below w.heap.size w w' := by
  have hmm := @run_makeMap Try.prog
  have hml : 0 < maxLen := by unfold maxLen; omega
  have hk := keyAtI c (by omega)
  have hkn : kn (waysP c) N = 1 := by
    have := kn_put (W := fun _ => none) (x := c) (l := (0, 0)) N rfl
    rw [if_pos hc] at this
    have e : kn (fun _ => none) N = 0 := by simp [kn]
    rw [e] at this
    exact this
  go_enter Try.func99, Try.ntmps99
  go_wp2_with (refine wpList_g_put rfl _ _ _ 94 (.inr rfl) 3 71 keyInt Try.underlying94 hml rfl (MapG.made w _ zeroL) (I c) zeroL rfl rfl hk ?_; intro w2 hm2 hg2)
  go_ret
  refine ⟨_, rfl, Nat.le_refl _, ⟨_, by rw [hkn]; exact hm2, fun x => ?_⟩, ((Below.refl _ _).alloc (Nat.le_refl _) _).grown hg2 (by simp) (fun j hj => by cases hj; exact Nat.le_refl _)⟩
  exact putW (W := fun _ => none) (fun _ => rfl) c (0, 0) x
end Go.Proofs.Ytehoaenkkmmobaa
