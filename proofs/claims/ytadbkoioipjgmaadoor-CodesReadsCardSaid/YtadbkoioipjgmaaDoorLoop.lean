/-
  A LOOP OVER A FUNCTION WHOSE VALUE MAY BEAR A RECEIVER (a method value) OR CAPTURED VARIABLES: what an iterator promises, what the body of the loop promises, and the law of the loop.
-/
import Derived.Test.YtadbkoioipjgmaaDoorAdv
import Derived.RangeFuncBound
namespace Go.Proofs.YtadbkoioipjgmaaDoor
open Go.RowKit
/-- whatever block from B on stood in W stands in W' as it was -/
structure KeepFrom (B : Nat) (W W' : World) : Prop where
  size : W.heap.size ≤ W'.heap.size
  same : ∀ k, B ≤ k → k < W.heap.size → W'.heap[k]? = W.heap[k]?
theorem KeepFrom.refl (B : Nat) (W : World) : KeepFrom B W W := ⟨Nat.le_refl _, fun _ _ _ => rfl⟩
theorem KeepFrom.trans {B : Nat} {X Y Z : World} (h : KeepFrom B X Y) (k : KeepFrom B Y Z) : KeepFrom B X Z :=
  ⟨Nat.le_trans h.size k.size, fun i h1 h2 => (k.same i h1 (Nat.lt_of_lt_of_le h2 h.size)).trans (h.same i h1 h2)⟩
theorem KeepFrom.more {B B' : Nat} {X Y : World} (h : KeepFrom B X Y) (hB : B ≤ B') : KeepFrom B' X Y := ⟨h.size, fun i h1 h2 => h.same i (Nat.le_trans hB h1) h2⟩
theorem KeepFrom.of_below {B n : Nat} {X Y : World} (h : Below n X Y) (hn : X.heap.size ≤ n) : KeepFrom B X Y := ⟨h.size, fun i _ h2 => h.block i (Nat.lt_of_lt_of_le h2 hn)⟩
theorem KeepFrom.alloc (B : Nat) (X : World) (o : Obj) : KeepFrom B X (X.alloc o) := .of_below ((Below.refl _ _).alloc (Nat.le_refl _) o) (Nat.le_refl _)
theorem KeepFrom.setCell {B : Nat} (X : World) {p : Addr} (hp : p.block < B) (v : Value) : KeepFrom B X (X.setCell p v) :=
  ⟨by simp [World.setCell], fun i h1 _ => Below.heap_setCell _ _ _ _ (by omega)⟩
theorem below_putObj {B : Nat} (W : World) {l : Nat} (o : Obj) (hl : B ≤ l) : Below B W (W.putObj l o) :=
  ⟨rfl, rfl, rfl, by simp, fun k hk => World.putObj_heap_other (by omega)⟩
variable {F : Fence} {n : Nat} {P : Program}
/-- what an iterator promises: it hands out xs, one after the other, till a round says no -/
def Iter (F : Fence) (n : Nat) (P : Program) (gf : Nat) (fa lb : Array Value) (enc : List Int → Value) (xs : List (List Int)) (G : World → Prop) (W : World) : Prop :=
  ∀ (l : Nat) (J Jx : Nat → World → Prop), (∀ k A B, J k A → Below W.heap.size A B → J k B) → (∀ k A B, Jx k A → Below W.heap.size A B → Jx k B) →
    (∀ k A, J k A → G A) → (∀ (k : Nat) (hk : k < xs.length) (W1 : World), J k W1 → YieldAt F (n - 1) P l #[enc xs[k]] W1 fun e W2 =>
      (e = .returned (.bool true) ∧ J (k + 1) W2 ∧ KeepFrom W.heap.size W1 W2) ∨ (e = .returned (.bool false) ∧ Jx (k + 1) W2 ∧ KeepFrom W.heap.size W1 W2)) →
    J 0 W →
    CallsIn F n P gf (fa ++ #[.func (.yield l) #[] #[]] ++ lb) W fun e W' => (∃ v, e = .returned v) ∧ (J xs.length W' ∨ ∃ k, 0 < k ∧ k ≤ xs.length ∧ Jx k W')
/-- how the body of a round may be left -/
def roundEnd (B : Nat) (I : Nat → World → Prop) (Ix : Code → Nat → World → Prop) (k : Nat) (W : World) : Exit → Act → World → Prop
  | .normal, _, W' => KeepFrom B W W' ∧ I k W'
  | .ret, _, W' => KeepFrom B W W' ∧ Ix .ret k W'
  | .exit id, _, W' => KeepFrom B W W' ∧ Ix (.exit id) k W'
  | .goto t, _, W' => KeepFrom B W W' ∧ Ix (.goto t) k W'
  | .panic _, _, _ => False
  | .outgrown, _, _ => False
/-- the law of the loop -/
theorem wpIn_loop {g : Operand} {ps : Array Tmp} {assign body : Code} {Q : Exit → Act → World → Prop} {a : Act} {w : World}
    (hro : F.round = none) (h1 : 1 ≤ n) {gf : Nat} {fa lb : Array Value} (hg : a.eval g = .func (.func gf) fa lb) (hFg : F.fn gf) (eg : Enters P gf)
    {enc : List Int → Value} {xs : List (List Int)} {G : World → Prop} (hseq : ∀ W, Below w.heap.size w W → G W → Iter F (n - 1) P gf fa lb enc xs G W) (hps : ps.size = 1)
    (I : Nat → World → Prop) (Ix : Code → Nat → World → Prop) (hI : ∀ k A B, I k A → Below w.heap.size A B → I k B) (hIx : ∀ c k A B, Ix c k A → Below w.heap.size A B → Ix c k B) (hG : ∀ k A, I k A → G A) (h0 : I 0 w)
    (hround : ∀ (l k : Nat) (hk : k < xs.length) (W : World), w.heap.size ≤ l → l < W.heap.size → I k W →
      assign.wpIn (F.inRound l) (n - 1 - 1) P (Exit.then (fun a₁ W₁ => Below W.heap.size W W₁ ∧ ∀ o : Obj, body.wpIn (F.inRound l) (n - 1 - 1) P (roundEnd w.heap.size I Ix (k + 1) (W₁.putObj l o)) a₁ (W₁.putObj l o)) (fun _ _ _ => False))
        { tmps := (ps.zip #[enc xs[k]]).foldl (fun t (p, v) => t.setIfInBounds p v) a.tmps, defers := [] } W)
    (hdone : ∀ (W : World), I xs.length W → W.heap[w.heap.size]? = some (.deferred (some [])) → Q .normal { a with defers := { target := .collected w.heap.size, args := #[] } :: a.defers } W)
    (hstop : ∀ (c : Code) (k : Nat) (W : World), 0 < k → k ≤ xs.length → Ix c k W → W.heap[w.heap.size]? = some (.deferred (some [])) → c.wpIn F n P Q { a with defers := { target := .collected w.heap.size, args := #[] } :: a.defers } W) :
    (Code.rangeFunc g ps assign body).wpIn F n P Q a w := by
  refine wpIn_rangeFunc fun fn hfn => ?_
  rw [hro]
  obtain ⟨R, hR⟩ : ∃ R : LoopState → Option Code → Loop, R = fun st pe => { state := st, pending := pe, fn, tmps := a.tmps, params := ps, assign, body, defers := w.heap.size } := ⟨_, rfl⟩
  obtain ⟨V, hV⟩ : ∃ V, (w.alloc (.deferred (some []))).alloc (.loop (R .ready none)) = V := ⟨_, rfl⟩
  have hVs : V.heap.size = w.heap.size + 2 := by rw [← hV]; simp
  have hwV : Below w.heap.size w V := by rw [← hV]; exact ((Below.refl _ w).alloc (Nat.le_refl _) _).alloc (by simp) _
  have hVl : V.heap[w.heap.size + 1]? = some (.loop (R .ready none)) := by rw [← hV]; exact alloc_obj _ _ _ (by simp)
  have hVd : V.heap[w.heap.size]? = some (.deferred (some [])) := by rw [← hV]; exact (Below.heap_alloc _ _ _ (by simp)).trans (alloc_obj _ _ _ rfl)
  refine ⟨w.heap.size + 1, [{ target := .collected w.heap.size, args := #[] }], V, { target := .fn (.func gf) lb, args := fa ++ #[.func (.yield (w.heap.size + 1)) #[] #[]] }, V, gf,
    fa ++ #[.func (.yield (w.heap.size + 1)) #[] #[]] ++ lb, V, ?_, ?_, ?_, ?_, fun _ => h1, ?_⟩
  · rw [← hV, hR]; exact run_enterLoop_outer _ _ _ _ _
  · simp only [resolve, hg]
    simp [go_sem]
  · intro f' hf'; simp [Target.leads] at hf'; subst hf'; exact hFg
  · have he : (callFunc gf (fa ++ #[.func (.yield (w.heap.size + 1)) #[] #[]] ++ lb)).run P V = .ok (.enter gf (fa ++ #[.func (.yield (w.heap.size + 1)) #[] #[]] ++ lb)) V := eg _ _
    simp only [invoke]
    exact he
  refine (hseq V hwV (hG 0 _ (hI 0 w V h0 hwV)) (w.heap.size + 1)
    (fun k W => I k W ∧ V.heap.size ≤ W.heap.size ∧ W.heap[w.heap.size + 1]? = some (.loop (R .ready none)) ∧ W.heap[w.heap.size]? = some (.deferred (some [])))
    (fun k W => ∃ c, Ix c k W ∧ W.heap[w.heap.size + 1]? = some (.loop (R .done (some c))) ∧ W.heap[w.heap.size]? = some (.deferred (some [])))
    (fun k A B ⟨j1, j2, j3, j4⟩ hb => ⟨hI k A B j1 (hb.mono (by omega)), Nat.le_trans j2 hb.size, (hb.block _ (by omega)).trans j3, (hb.block _ (by omega)).trans j4⟩)
    (fun k A B ⟨c, j1, j3, j4⟩ hb => ⟨c, hIx c k A B j1 (hb.mono (by omega)), (hb.block _ (by omega)).trans j3, (hb.block _ (by omega)).trans j4⟩)
    (fun k A ⟨j1, _⟩ => hG k A j1) ?_ ⟨hI 0 w V h0 hwV, Nat.le_refl _, hVl, hVd⟩).mono ?_
  · rintro k hk W ⟨i1, i2, i3, i4⟩
    have hy := run_yield (P := P) (args := #[enc xs[k]]) i3 (by rw [hR]; simp [hps])
    rw [hR] at hy
    refine ⟨fn, _, assign, body, hy, roundIn_of_wpIn hfn (wpIn_mono (hround (w.heap.size + 1) k hk W (by omega) (by omega) i1) ?_)⟩
    intro e a₁ W₁ hx
    cases e with
    | normal =>
      obtain ⟨hb1, hbody⟩ := hx
      have l1 : W₁.heap[w.heap.size + 1]? = some (.loop (R .ready none)) := (hb1.block _ (by omega)).trans i3
      have d1 : W₁.heap[w.heap.size]? = some (.deferred (some [])) := (hb1.block _ (by omega)).trans i4
      refine ⟨_, run_beginRound l1 (by rw [hR]), wpIn_mono (hbody _) ?_⟩
      have l2 : (W₁.putObj (w.heap.size + 1) (.loop { R .ready none with state := .busy })).heap[w.heap.size + 1]? = some (.loop { R .ready none with state := .busy }) := World.putObj_heap_same (row_lt' l1)
      have d2 : (W₁.putObj (w.heap.size + 1) (.loop { R .ready none with state := .busy })).heap[w.heap.size]? = some (.deferred (some [])) := (World.putObj_heap_other (by omega)).trans d1
      have s1 := hb1.size
      have fin : ∀ (jump : Option Code) (W3 : World), KeepFrom w.heap.size (W₁.putObj (w.heap.size + 1) (.loop { R .ready none with state := .busy })) W3 →
          (Instr.endRound (w.heap.size + 1) jump).run P W3 = .ok (.bool jump.isNone) (W3.putObj (w.heap.size + 1) (.loop (R (if jump.isNone then .ready else .done) jump))) ∧
          (W3.putObj (w.heap.size + 1) (.loop (R (if jump.isNone then .ready else .done) jump))).heap[w.heap.size + 1]? = some (.loop (R (if jump.isNone then .ready else .done) jump)) ∧
          (W3.putObj (w.heap.size + 1) (.loop (R (if jump.isNone then .ready else .done) jump))).heap[w.heap.size]? = some (.deferred (some [])) ∧
          KeepFrom V.heap.size W (W3.putObj (w.heap.size + 1) (.loop (R (if jump.isNone then .ready else .done) jump))) := fun jump W3 hk3 => by
        have hk3s := hk3.size
        simp only [World.putObj_size] at hk3s
        have l3 := (hk3.same (w.heap.size + 1) (by omega) (by simp; omega)).trans l2
        have d3 := (hk3.same w.heap.size (by omega) (by simp; omega)).trans d2
        have he := run_endRound (P := P) jump l3
        rw [hR] at he ⊢
        refine ⟨he, World.putObj_heap_same (row_lt' l3), (World.putObj_heap_other (by omega)).trans d3, ⟨by simp; omega, fun i h1 h2 => ?_⟩⟩
        rw [World.putObj_heap_other (by omega), hk3.same i (by omega) (by simp; omega), World.putObj_heap_other (by omega)]
        exact hb1.block i h2
      intro e2 a3 W3 hp
      cases e2 with
      | normal =>
        obtain ⟨k3, i3'⟩ := hp
        obtain ⟨f1, f2, f3, f4⟩ := fin none W3 k3
        exact ⟨_, _, f1, .inl ⟨rfl, ⟨hI _ _ _ i3' (below_putObj _ _ (by omega)), by have := f4.size; omega, f2, f3⟩, f4⟩⟩
      | ret =>
        obtain ⟨k3, i3'⟩ := hp
        obtain ⟨f1, f2, f3, f4⟩ := fin (some .ret) W3 k3
        exact ⟨_, _, f1, .inr ⟨rfl, ⟨.ret, hIx _ _ _ _ i3' (below_putObj _ _ (by omega)), f2, f3⟩, f4⟩⟩
      | exit id =>
        obtain ⟨k3, i3'⟩ := hp
        obtain ⟨f1, f2, f3, f4⟩ := fin (some (.exit id)) W3 k3
        exact ⟨_, _, f1, .inr ⟨rfl, ⟨.exit id, hIx _ _ _ _ i3' (below_putObj _ _ (by omega)), f2, f3⟩, f4⟩⟩
      | goto t =>
        obtain ⟨k3, i3'⟩ := hp
        obtain ⟨f1, f2, f3, f4⟩ := fin (some (.goto t)) W3 k3
        exact ⟨_, _, f1, .inr ⟨rfl, ⟨.goto t, hIx _ _ _ _ i3' (below_putObj _ _ (by omega)), f2, f3⟩, f4⟩⟩
      | panic ch => exact hp.elim
      | outgrown => exact hp.elim
    | exit id => exact hx.elim
    | goto t => exact hx.elim
    | ret => exact hx.elim
    | panic chain => exact hx.elim
    | outgrown => exact hx.elim
  · rintro e W2 ⟨⟨v, rfl⟩, h⟩
    rcases h with ⟨i1, _, i3, i4⟩ | ⟨k, k0, k1, c, i1, i3, i4⟩
    · refine ⟨none, _, (by have := run_endLoop (P := P) i3 (by rw [hR]; simp); rw [hR] at this; exact this), ?_⟩
      exact hdone _ (hI _ _ _ i1 (below_putObj _ _ (by omega))) ((World.putObj_heap_other (by omega)).trans i4)
    · refine ⟨some c, _, (by have := run_endLoop (P := P) i3 (by rw [hR]; simp); rw [hR] at this; exact this), ?_⟩
      exact hstop c k _ k0 k1 (hIx _ _ _ _ i1 (below_putObj _ _ (by omega))) ((World.putObj_heap_other (by omega)).trans i4)
end Go.Proofs.YtadbkoioipjgmaaDoor
