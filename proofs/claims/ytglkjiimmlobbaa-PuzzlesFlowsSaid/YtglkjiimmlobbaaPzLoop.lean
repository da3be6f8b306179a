/-
  WHAT IS GENERIC of loops over functions: what an iterator promises, the laws of the loop.
-/
import Derived.Test.YtglkjiimmlobbaaPzBase
import Derived.BigRegion
import Derived.RangeFuncBound
import Derived.RangeFuncNested
import Derived.RangeFuncCalls
import Derived.RangeFuncLeaves
import Derived.Shelf.Abstract
import Derived.Shelf.RegionOpen
import Derived.OwnWalkIn
import Derived.TacticsInMore
import Derived.LoopNIn
import Derived.LoopIn
import Derived.OrdersIn
import Derived.WalkKit
import Derived.Sort.CutIn
namespace Go.Proofs.Ytglkjiimmlobbaa
theorem row_lt' {w : World} {g : Nat} {o : Obj} (h : w.heap[g]? = some o) : g < w.heap.size := (Array.getElem?_eq_some_iff.1 h).1
end Go.Proofs.Ytglkjiimmlobbaa
/-
  A LOOP OVER A FUNCTION WHOSE VALUE MAY BEAR A RECEIVER (a method value) OR CAPTURED VARIABLES: what an iterator promises, what the body of the loop promises, and the law of the loop.
-/
namespace Go.Proofs.Ytglkjiimmlobbaa
open Go.RowKit
/-- whatever block from B on stood in W stands in W' as it was -/
structure KeepFrom (B : Nat) (W W' : World) : Prop where
  size : W.heap.size ≤ W'.heap.size
  same : ∀ k, B ≤ k → k < W.heap.size → W'.heap[k]? = W.heap[k]?
theorem KeepFrom.refl (B : Nat) (W : World) : KeepFrom B W W := ⟨Nat.le_refl _, fun _ _ _ => rfl⟩
theorem KeepFrom.trans {B : Nat} {X Y Z : World} (h : KeepFrom B X Y) (k : KeepFrom B Y Z) : KeepFrom B X Z :=
  ⟨Nat.le_trans h.size k.size, fun i h1 h2 => (k.same i h1 (Nat.lt_of_lt_of_le h2 h.size)).trans (h.same i h1 h2)⟩
theorem KeepFrom.more {B B' : Nat} {X Y : World} (h : KeepFrom B X Y) (hB : B ≤ B') : KeepFrom B' X Y := ⟨h.size, fun i h1 h2 => h.same i (Nat.le_trans hB h1) h2⟩
theorem KeepFrom.of_below {B n : Nat} {X Y : World} (h : Below n X Y) (hn : X.heap.size ≤ n) : KeepFrom B X Y := ⟨h.size, fun i _ h2 => h.block i (Nat.lt_of_lt_of_le h2 hn)⟩
theorem KeepFrom.alloc (B : Nat) (X : World) (o : Obj) : KeepFrom B X (X.alloc o) := .of_below ((Below.refl _ _).alloc (Nat.le_refl _) o) (Nat.le_refl _)
theorem KeepFrom.setCell {B : Nat} (X : World) {p : Addr} (hp : p.block < B) (v : Value) : KeepFrom B X (X.setCell p v) :=
  ⟨by simp [World.setCell], fun i h1 _ => Below.heap_setCell _ _ _ _ (by omega)⟩
theorem below_putObj {B : Nat} (W : World) {l : Nat} (o : Obj) (hl : B ≤ l) : Below B W (W.putObj l o) :=
  ⟨rfl, rfl, rfl, by simp, fun k hk => World.putObj_heap_other (by omega)⟩
variable {F : Fence} {n : Nat} {P : Program}
/-- what an iterator promises: it hands out xs, one after the other, till a round says no -/
def Iter (F : Fence) (n : Nat) (P : Program) (gf : Nat) (fa lb : Array Value) (enc : List Int → Value) (xs : List (List Int)) (G : World → Prop) (W : World) : Prop :=
  ∀ (l : Nat) (J Jx : Nat → World → Prop), (∀ k A B, J k A → Below W.heap.size A B → J k B) → (∀ k A B, Jx k A → Below W.heap.size A B → Jx k B) →
    (∀ k A, J k A → G A) → (∀ (k : Nat) (hk : k < xs.length) (W1 : World), J k W1 → YieldAt F (n - 1) P l #[enc xs[k]] W1 fun e W2 =>
      (e = .returned (.bool true) ∧ J (k + 1) W2 ∧ KeepFrom W.heap.size W1 W2) ∨ (e = .returned (.bool false) ∧ Jx (k + 1) W2 ∧ KeepFrom W.heap.size W1 W2)) →
    J 0 W →
    CallsIn F n P gf (fa ++ #[.func (.yield l) #[] #[]] ++ lb) W fun e W' => (∃ v, e = .returned v) ∧ (J xs.length W' ∨ ∃ k, 0 < k ∧ k ≤ xs.length ∧ Jx k W')
/-- how the body of a round may be left -/
def roundEnd (B : Nat) (I : Nat → World → Prop) (Ix : Code → Nat → World → Prop) (k : Nat) (W : World) : Exit → Act → World → Prop
  | .normal, _, W' => KeepFrom B W W' ∧ I k W'
  | .ret, _, W' => KeepFrom B W W' ∧ Ix .ret k W'
  | .exit id, _, W' => KeepFrom B W W' ∧ Ix (.exit id) k W'
  | .goto t, _, W' => KeepFrom B W W' ∧ Ix (.goto t) k W'
  | .panic _, _, _ => False
  | .outgrown, _, _ => False
/-- the law of the loop -/
theorem wpIn_loop {g : Operand} {ps : Array Tmp} {assign body : Code} {Q : Exit → Act → World → Prop} {a : Act} {w : World}
    (hro : F.round = none) (h1 : 1 ≤ n) {gf : Nat} {fa lb : Array Value} (hg : a.eval g = .func (.func gf) fa lb) (hFg : F.fn gf) (eg : Enters P gf)
    {enc : List Int → Value} {xs : List (List Int)} {G : World → Prop} (hseq : ∀ W, Below w.heap.size w W → G W → Iter F (n - 1) P gf fa lb enc xs G W) (hps : ps.size = 1)
    (I : Nat → World → Prop) (Ix : Code → Nat → World → Prop) (hI : ∀ k A B, I k A → Below w.heap.size A B → I k B) (hIx : ∀ c k A B, Ix c k A → Below w.heap.size A B → Ix c k B) (hG : ∀ k A, I k A → G A) (h0 : I 0 w)
    (hround : ∀ (l k : Nat) (hk : k < xs.length) (W : World), w.heap.size ≤ l → l < W.heap.size → I k W →
      assign.wpIn (F.inRound l) (n - 1 - 1) P (Exit.then (fun a₁ W₁ => Below W.heap.size W W₁ ∧ ∀ o : Obj, body.wpIn (F.inRound l) (n - 1 - 1) P (roundEnd w.heap.size I Ix (k + 1) (W₁.putObj l o)) a₁ (W₁.putObj l o)) (fun _ _ _ => False))
        { tmps := (ps.zip #[enc xs[k]]).foldl (fun t (p, v) => t.setIfInBounds p v) a.tmps, defers := [] } W)
    (hdone : ∀ (W : World), I xs.length W → W.heap[w.heap.size]? = some (.deferred (some [])) → Q .normal { a with defers := { target := .collected w.heap.size, args := #[] } :: a.defers } W)
    (hstop : ∀ (c : Code) (k : Nat) (W : World), 0 < k → k ≤ xs.length → Ix c k W → W.heap[w.heap.size]? = some (.deferred (some [])) → c.wpIn F n P Q { a with defers := { target := .collected w.heap.size, args := #[] } :: a.defers } W) :
    (Code.rangeFunc g ps assign body).wpIn F n P Q a w := by
  refine wpIn_rangeFunc fun fn hfn => ?_
  rw [hro]
  obtain ⟨R, hR⟩ : ∃ R : LoopState → Option Code → Loop, R = fun st pe => { state := st, pending := pe, fn, tmps := a.tmps, params := ps, assign, body, defers := w.heap.size } := ⟨_, rfl⟩
  obtain ⟨V, hV⟩ : ∃ V, (w.alloc (.deferred (some []))).alloc (.loop (R .ready none)) = V := ⟨_, rfl⟩
  have hVs : V.heap.size = w.heap.size + 2 := by rw [← hV]; simp
  have hwV : Below w.heap.size w V := by rw [← hV]; exact ((Below.refl _ w).alloc (Nat.le_refl _) _).alloc (by simp) _
  have hVl : V.heap[w.heap.size + 1]? = some (.loop (R .ready none)) := by rw [← hV]; exact alloc_obj _ _ _ (by simp)
  have hVd : V.heap[w.heap.size]? = some (.deferred (some [])) := by rw [← hV]; exact (Below.heap_alloc _ _ _ (by simp)).trans (alloc_obj _ _ _ rfl)
  refine ⟨w.heap.size + 1, [{ target := .collected w.heap.size, args := #[] }], V, { target := .fn (.func gf) lb, args := fa ++ #[.func (.yield (w.heap.size + 1)) #[] #[]] }, V, gf,
    fa ++ #[.func (.yield (w.heap.size + 1)) #[] #[]] ++ lb, V, ?_, ?_, ?_, ?_, fun _ => h1, ?_⟩
  · rw [← hV, hR]; exact run_enterLoop_outer _ _ _ _ _
  · simp only [resolve, hg]
    simp [go_sem]
  · intro f' hf'; simp [Target.leads] at hf'; subst hf'; exact hFg
  · have he : (callFunc gf (fa ++ #[.func (.yield (w.heap.size + 1)) #[] #[]] ++ lb)).run P V = .ok (.enter gf (fa ++ #[.func (.yield (w.heap.size + 1)) #[] #[]] ++ lb)) V := eg _ _
    simp only [invoke]
    exact he
  refine (hseq V hwV (hG 0 _ (hI 0 w V h0 hwV)) (w.heap.size + 1)
    (fun k W => I k W ∧ V.heap.size ≤ W.heap.size ∧ W.heap[w.heap.size + 1]? = some (.loop (R .ready none)) ∧ W.heap[w.heap.size]? = some (.deferred (some [])))
    (fun k W => ∃ c, Ix c k W ∧ W.heap[w.heap.size + 1]? = some (.loop (R .done (some c))) ∧ W.heap[w.heap.size]? = some (.deferred (some [])))
    (fun k A B ⟨j1, j2, j3, j4⟩ hb => ⟨hI k A B j1 (hb.mono (by omega)), Nat.le_trans j2 hb.size, (hb.block _ (by omega)).trans j3, (hb.block _ (by omega)).trans j4⟩)
    (fun k A B ⟨c, j1, j3, j4⟩ hb => ⟨c, hIx c k A B j1 (hb.mono (by omega)), (hb.block _ (by omega)).trans j3, (hb.block _ (by omega)).trans j4⟩)
    (fun k A ⟨j1, _⟩ => hG k A j1) ?_ ⟨hI 0 w V h0 hwV, Nat.le_refl _, hVl, hVd⟩).mono ?_
  · rintro k hk W ⟨i1, i2, i3, i4⟩
    have hy := run_yield (P := P) (args := #[enc xs[k]]) i3 (by rw [hR]; simp [hps])
    rw [hR] at hy
    refine ⟨fn, _, assign, body, hy, roundIn_of_wpIn hfn (wpIn_mono (hround (w.heap.size + 1) k hk W (by omega) (by omega) i1) ?_)⟩
    intro e a₁ W₁ hx
    cases e with
    | normal =>
      obtain ⟨hb1, hbody⟩ := hx
      have l1 : W₁.heap[w.heap.size + 1]? = some (.loop (R .ready none)) := (hb1.block _ (by omega)).trans i3
      have d1 : W₁.heap[w.heap.size]? = some (.deferred (some [])) := (hb1.block _ (by omega)).trans i4
      refine ⟨_, run_beginRound l1 (by rw [hR]), wpIn_mono (hbody _) ?_⟩
      have l2 : (W₁.putObj (w.heap.size + 1) (.loop { R .ready none with state := .busy })).heap[w.heap.size + 1]? = some (.loop { R .ready none with state := .busy }) := World.putObj_heap_same (row_lt' l1)
      have d2 : (W₁.putObj (w.heap.size + 1) (.loop { R .ready none with state := .busy })).heap[w.heap.size]? = some (.deferred (some [])) := (World.putObj_heap_other (by omega)).trans d1
      have s1 := hb1.size
      have fin : ∀ (jump : Option Code) (W3 : World), KeepFrom w.heap.size (W₁.putObj (w.heap.size + 1) (.loop { R .ready none with state := .busy })) W3 →
          (Instr.endRound (w.heap.size + 1) jump).run P W3 = .ok (.bool jump.isNone) (W3.putObj (w.heap.size + 1) (.loop (R (if jump.isNone then .ready else .done) jump))) ∧
          (W3.putObj (w.heap.size + 1) (.loop (R (if jump.isNone then .ready else .done) jump))).heap[w.heap.size + 1]? = some (.loop (R (if jump.isNone then .ready else .done) jump)) ∧
          (W3.putObj (w.heap.size + 1) (.loop (R (if jump.isNone then .ready else .done) jump))).heap[w.heap.size]? = some (.deferred (some [])) ∧
          KeepFrom V.heap.size W (W3.putObj (w.heap.size + 1) (.loop (R (if jump.isNone then .ready else .done) jump))) := fun jump W3 hk3 => by
        have hk3s := hk3.size
        simp only [World.putObj_size] at hk3s
        have l3 := (hk3.same (w.heap.size + 1) (by omega) (by simp; omega)).trans l2
        have d3 := (hk3.same w.heap.size (by omega) (by simp; omega)).trans d2
        have he := run_endRound (P := P) jump l3
        rw [hR] at he ⊢
        refine ⟨he, World.putObj_heap_same (row_lt' l3), (World.putObj_heap_other (by omega)).trans d3, ⟨by simp; omega, fun i h1 h2 => ?_⟩⟩
        rw [World.putObj_heap_other (by omega), hk3.same i (by omega) (by simp; omega), World.putObj_heap_other (by omega)]
        exact hb1.block i h2
      intro e2 a3 W3 hp
      cases e2 with
      | normal =>
        obtain ⟨k3, i3'⟩ := hp
        obtain ⟨f1, f2, f3, f4⟩ := fin none W3 k3
        exact ⟨_, _, f1, .inl ⟨rfl, ⟨hI _ _ _ i3' (below_putObj _ _ (by omega)), by have := f4.size; omega, f2, f3⟩, f4⟩⟩
      | ret =>
        obtain ⟨k3, i3'⟩ := hp
        obtain ⟨f1, f2, f3, f4⟩ := fin (some .ret) W3 k3
        exact ⟨_, _, f1, .inr ⟨rfl, ⟨.ret, hIx _ _ _ _ i3' (below_putObj _ _ (by omega)), f2, f3⟩, f4⟩⟩
      | exit id =>
        obtain ⟨k3, i3'⟩ := hp
        obtain ⟨f1, f2, f3, f4⟩ := fin (some (.exit id)) W3 k3
        exact ⟨_, _, f1, .inr ⟨rfl, ⟨.exit id, hIx _ _ _ _ i3' (below_putObj _ _ (by omega)), f2, f3⟩, f4⟩⟩
      | goto t =>
        obtain ⟨k3, i3'⟩ := hp
        obtain ⟨f1, f2, f3, f4⟩ := fin (some (.goto t)) W3 k3
        exact ⟨_, _, f1, .inr ⟨rfl, ⟨.goto t, hIx _ _ _ _ i3' (below_putObj _ _ (by omega)), f2, f3⟩, f4⟩⟩
      | panic ch => exact hp.elim
      | outgrown => exact hp.elim
    | exit id => exact hx.elim
    | goto t => exact hx.elim
    | ret => exact hx.elim
    | panic chain => exact hx.elim
    | outgrown => exact hx.elim
  · rintro e W2 ⟨⟨v, rfl⟩, h⟩
    rcases h with ⟨i1, _, i3, i4⟩ | ⟨k, k0, k1, c, i1, i3, i4⟩
    · refine ⟨none, _, (by have := run_endLoop (P := P) i3 (by rw [hR]; simp); rw [hR] at this; exact this), ?_⟩
      exact hdone _ (hI _ _ _ i1 (below_putObj _ _ (by omega))) ((World.putObj_heap_other (by omega)).trans i4)
    · refine ⟨some c, _, (by have := run_endLoop (P := P) i3 (by rw [hR]; simp); rw [hR] at this; exact this), ?_⟩
      exact hstop c k _ k0 k1 (hIx _ _ _ _ i1 (below_putObj _ _ (by omega))) ((World.putObj_heap_other (by omega)).trans i4)
end Go.Proofs.Ytglkjiimmlobbaa
/-
  A LOOP OVER A FUNCTION, ITS ROUNDS MAKING MEMORY THAT STAYS: the iterator owns the blocks of a window; what is made from the window's end on it leaves alone.
-/
namespace Go.Proofs.Ytglkjiimmlobbaa
open Go.RowKit
/-- below lo nothing turns, nor in what stands from hi on -/
structure BelowD (lo hi : Nat) (A B : World) : Prop where
  low : Below lo A B
  high : ∀ b, hi ≤ b → b < A.heap.size → B.heap[b]? = A.heap[b]?
theorem BelowD.refl (lo hi : Nat) (A : World) : BelowD lo hi A A := ⟨Below.refl _ _, fun _ _ _ => rfl⟩
theorem BelowD.trans {lo hi : Nat} {X Y Z : World} (h : BelowD lo hi X Y) (k : BelowD lo hi Y Z) : BelowD lo hi X Z :=
  ⟨h.low.trans k.low, fun b h1 h2 => (k.high b h1 (Nat.lt_of_lt_of_le h2 h.low.size)).trans (h.high b h1 h2)⟩
theorem BelowD.mono {lo hi lo' hi' : Nat} {X Y : World} (h : BelowD lo hi X Y) (h1 : lo' ≤ lo) (h2 : hi ≤ hi') : BelowD lo' hi' X Y := ⟨h.low.mono h1, fun b e => h.high b (Nat.le_trans h2 e)⟩
theorem BelowD.of_below {lo hi n : Nat} {X Y : World} (h : Below n X Y) (hn : X.heap.size ≤ n) (hl : lo ≤ n) : BelowD lo hi X Y := ⟨h.mono hl, fun b _ h2 => h.block b (Nat.lt_of_lt_of_le h2 hn)⟩
theorem BelowD.putObj {lo hi : Nat} (W : World) {l : Nat} (o : Obj) (h1 : lo ≤ l) (h2 : l < hi) : BelowD lo hi W (W.putObj l o) := ⟨below_putObj W o h1, fun _ e _ => World.putObj_heap_other (by omega)⟩
/-- what stands from lo on, below hi, stays -/
structure KeepMid (lo hi : Nat) (A B : World) : Prop where
  size : A.heap.size ≤ B.heap.size
  same : ∀ b, lo ≤ b → b < hi → b < A.heap.size → B.heap[b]? = A.heap[b]?
theorem KeepMid.refl (lo hi : Nat) (A : World) : KeepMid lo hi A A := ⟨Nat.le_refl _, fun _ _ _ _ => rfl⟩
theorem KeepMid.trans {lo hi : Nat} {X Y Z : World} (h : KeepMid lo hi X Y) (k : KeepMid lo hi Y Z) : KeepMid lo hi X Z :=
  ⟨Nat.le_trans h.size k.size, fun b h0 h1 h2 => (k.same b h0 h1 (Nat.lt_of_lt_of_le h2 h.size)).trans (h.same b h0 h1 h2)⟩
theorem KeepMid.mono {lo hi lo' hi' : Nat} {X Y : World} (h : KeepMid lo hi X Y) (h1 : lo ≤ lo') (h2 : hi' ≤ hi) : KeepMid lo' hi' X Y := ⟨h.size, fun b a c => h.same b (Nat.le_trans h1 a) (Nat.lt_of_lt_of_le c h2)⟩
theorem KeepMid.of_below {lo hi n : Nat} {X Y : World} (h : Below n X Y) (hn : hi ≤ n) : KeepMid lo hi X Y := ⟨h.size, fun b _ h1 _ => h.block b (Nat.lt_of_lt_of_le h1 hn)⟩
theorem KeepMid.of_call {lo hi n : Nat} {X Y : World} (h : Below n X Y) (hn : X.heap.size ≤ n) : KeepMid lo hi X Y := ⟨h.size, fun b _ _ h2 => h.block b (Nat.lt_of_lt_of_le h2 hn)⟩
theorem KeepMid.setCell {lo hi : Nat} (X : World) {p : Addr} (hp : p.block < lo ∨ hi ≤ p.block) (v : Value) : KeepMid lo hi X (X.setCell p v) :=
  ⟨by simp [World.setCell], fun i h1 h2 _ => Below.heap_setCell _ _ _ _ (by omega)⟩
variable {F : Fence} {n : Nat} {P : Program}
/-- what an iterator promises: it hands out xs, one after the other, till a round says no -/
def IterD (F : Fence) (n : Nat) (P : Program) (gf : Nat) (fa lb : Array Value) (enc : List Int → Value) (xs : List (List Int)) (G : World → Prop) (d : Nat) (W : World) : Prop :=
  ∀ (l : Nat) (J Jx : Nat → World → Prop), (∀ k A B, J k A → BelowD W.heap.size (W.heap.size + d) A B → J k B) → (∀ k A B, Jx k A → BelowD W.heap.size (W.heap.size + d) A B → Jx k B) →
    (∀ k A, J k A → G A) → (∀ (k : Nat) (hk : k < xs.length) (W1 : World), W.heap.size + d ≤ W1.heap.size → J k W1 → YieldAt F (n - 1) P l #[enc xs[k]] W1 fun e W2 =>
      (e = .returned (.bool true) ∧ J (k + 1) W2 ∧ KeepMid W.heap.size (W.heap.size + d) W1 W2) ∨ (e = .returned (.bool false) ∧ Jx (k + 1) W2 ∧ KeepMid W.heap.size (W.heap.size + d) W1 W2)) →
    J 0 W →
    CallsIn F n P gf (fa ++ #[.func (.yield l) #[] #[]] ++ lb) W fun e W' => (∃ v, e = .returned v) ∧ (J xs.length W' ∨ ∃ k, 0 < k ∧ k ≤ xs.length ∧ Jx k W')
/-- how the body of a round may be left -/
def roundEndD (B C : Nat) (I : Nat → World → Prop) (Ix : Code → Nat → World → Prop) (k : Nat) (W : World) : Exit → Act → World → Prop
  | .normal, _, W' => KeepMid B C W W' ∧ I k W'
  | .ret, _, W' => KeepMid B C W W' ∧ Ix .ret k W'
  | .exit id, _, W' => KeepMid B C W W' ∧ Ix (.exit id) k W'
  | .goto t, _, W' => KeepMid B C W W' ∧ Ix (.goto t) k W'
  | .panic _, _, _ => False
  | .outgrown, _, _ => False
/-- the law of the loop -/
theorem wpIn_loopD {g : Operand} {ps : Array Tmp} {assign body : Code} {Q : Exit → Act → World → Prop} {a : Act} {w : World}
    (hro : F.round = none) (h1 : 1 ≤ n) {gf : Nat} {fa lb : Array Value} (hg : a.eval g = .func (.func gf) fa lb) (hFg : F.fn gf) (eg : Enters P gf)
    {enc : List Int → Value} {xs : List (List Int)} {G : World → Prop} (d : Nat) (hseq : ∀ W, Below w.heap.size w W → G W → W.heap.size = w.heap.size + 2 → IterD F (n - 1) P gf fa lb enc xs G d W) (hps : ps.size = 1)
    (I : Nat → World → Prop) (Ix : Code → Nat → World → Prop) (hI : ∀ k A B, I k A → BelowD w.heap.size (w.heap.size + 2 + d) A B → I k B) (hIx : ∀ c k A B, Ix c k A → BelowD w.heap.size (w.heap.size + 2 + d) A B → Ix c k B) (hG : ∀ k A, I k A → G A) (h0 : I 0 w)
    (hround : ∀ (l k : Nat) (hk : k < xs.length) (W : World), w.heap.size ≤ l → l < w.heap.size + 2 → w.heap.size + 2 + d ≤ W.heap.size → I k W →
      assign.wpIn (F.inRound l) (n - 1 - 1) P (Exit.then (fun a₁ W₁ => Below W.heap.size W W₁ ∧ ∀ o : Obj, body.wpIn (F.inRound l) (n - 1 - 1) P (roundEndD w.heap.size (w.heap.size + 2 + d) I Ix (k + 1) (W₁.putObj l o)) a₁ (W₁.putObj l o)) (fun _ _ _ => False))
        { tmps := (ps.zip #[enc xs[k]]).foldl (fun t (p, v) => t.setIfInBounds p v) a.tmps, defers := [] } W)
    (hdone : ∀ (W : World), I xs.length W → W.heap[w.heap.size]? = some (.deferred (some [])) → Q .normal { a with defers := { target := .collected w.heap.size, args := #[] } :: a.defers } W)
    (hstop : ∀ (c : Code) (k : Nat) (W : World), 0 < k → k ≤ xs.length → Ix c k W → W.heap[w.heap.size]? = some (.deferred (some [])) → c.wpIn F n P Q { a with defers := { target := .collected w.heap.size, args := #[] } :: a.defers } W) :
    (Code.rangeFunc g ps assign body).wpIn F n P Q a w := by
  refine wpIn_rangeFunc fun fn hfn => ?_
  rw [hro]
  obtain ⟨R, hR⟩ : ∃ R : LoopState → Option Code → Loop, R = fun st pe => { state := st, pending := pe, fn, tmps := a.tmps, params := ps, assign, body, defers := w.heap.size } := ⟨_, rfl⟩
  obtain ⟨V, hV⟩ : ∃ V, (w.alloc (.deferred (some []))).alloc (.loop (R .ready none)) = V := ⟨_, rfl⟩
  have hVs : V.heap.size = w.heap.size + 2 := by rw [← hV]; simp
  have hwV : Below w.heap.size w V := by rw [← hV]; exact ((Below.refl _ w).alloc (Nat.le_refl _) _).alloc (by simp) _
  have hVl : V.heap[w.heap.size + 1]? = some (.loop (R .ready none)) := by rw [← hV]; exact alloc_obj _ _ _ (by simp)
  have hVd : V.heap[w.heap.size]? = some (.deferred (some [])) := by rw [← hV]; exact (Below.heap_alloc _ _ _ (by simp)).trans (alloc_obj _ _ _ rfl)
  refine ⟨w.heap.size + 1, [{ target := .collected w.heap.size, args := #[] }], V, { target := .fn (.func gf) lb, args := fa ++ #[.func (.yield (w.heap.size + 1)) #[] #[]] }, V, gf,
    fa ++ #[.func (.yield (w.heap.size + 1)) #[] #[]] ++ lb, V, ?_, ?_, ?_, ?_, fun _ => h1, ?_⟩
  · rw [← hV, hR]; exact run_enterLoop_outer _ _ _ _ _
  · simp only [resolve, hg]
    simp [go_sem]
  · intro f' hf'; simp [Target.leads] at hf'; subst hf'; exact hFg
  · have he : (callFunc gf (fa ++ #[.func (.yield (w.heap.size + 1)) #[] #[]] ++ lb)).run P V = .ok (.enter gf (fa ++ #[.func (.yield (w.heap.size + 1)) #[] #[]] ++ lb)) V := eg _ _
    simp only [invoke]
    exact he
  have hwD : BelowD w.heap.size (w.heap.size + 2 + d) w V := .of_below hwV (Nat.le_refl _) (Nat.le_refl _)
  refine (hseq V hwV (hG 0 _ (hI 0 w V h0 hwD)) hVs (w.heap.size + 1)
    (fun k W => I k W ∧ V.heap.size ≤ W.heap.size ∧ W.heap[w.heap.size + 1]? = some (.loop (R .ready none)) ∧ W.heap[w.heap.size]? = some (.deferred (some [])))
    (fun k W => ∃ c, Ix c k W ∧ W.heap[w.heap.size + 1]? = some (.loop (R .done (some c))) ∧ W.heap[w.heap.size]? = some (.deferred (some [])))
    (fun k A B ⟨j1, j2, j3, j4⟩ hb => ⟨hI k A B j1 (hb.mono (by omega) (by omega)), Nat.le_trans j2 hb.low.size, (hb.low.block _ (by omega)).trans j3, (hb.low.block _ (by omega)).trans j4⟩)
    (fun k A B ⟨c, j1, j3, j4⟩ hb => ⟨c, hIx c k A B j1 (hb.mono (by omega) (by omega)), (hb.low.block _ (by omega)).trans j3, (hb.low.block _ (by omega)).trans j4⟩)
    (fun k A ⟨j1, _⟩ => hG k A j1) ?_ ⟨hI 0 w V h0 hwD, Nat.le_refl _, hVl, hVd⟩).mono ?_
  · rintro k hk W hd ⟨i1, i2, i3, i4⟩
    have hy := run_yield (P := P) (args := #[enc xs[k]]) i3 (by rw [hR]; simp [hps])
    rw [hR] at hy
    refine ⟨fn, _, assign, body, hy, roundIn_of_wpIn hfn (wpIn_mono (hround (w.heap.size + 1) k hk W (by omega) (by omega) (by omega) i1) ?_)⟩
    intro e a₁ W₁ hx
    cases e with
    | normal =>
      obtain ⟨hb1, hbody⟩ := hx
      have l1 : W₁.heap[w.heap.size + 1]? = some (.loop (R .ready none)) := (hb1.block _ (by omega)).trans i3
      have d1 : W₁.heap[w.heap.size]? = some (.deferred (some [])) := (hb1.block _ (by omega)).trans i4
      refine ⟨_, run_beginRound l1 (by rw [hR]), wpIn_mono (hbody _) ?_⟩
      have l2 : (W₁.putObj (w.heap.size + 1) (.loop { R .ready none with state := .busy })).heap[w.heap.size + 1]? = some (.loop { R .ready none with state := .busy }) := World.putObj_heap_same (row_lt' l1)
      have d2 : (W₁.putObj (w.heap.size + 1) (.loop { R .ready none with state := .busy })).heap[w.heap.size]? = some (.deferred (some [])) := (World.putObj_heap_other (by omega)).trans d1
      have s1 := hb1.size
      have fin : ∀ (jump : Option Code) (W3 : World), KeepMid w.heap.size (w.heap.size + 2 + d) (W₁.putObj (w.heap.size + 1) (.loop { R .ready none with state := .busy })) W3 →
          (Instr.endRound (w.heap.size + 1) jump).run P W3 = .ok (.bool jump.isNone) (W3.putObj (w.heap.size + 1) (.loop (R (if jump.isNone then .ready else .done) jump))) ∧
          (W3.putObj (w.heap.size + 1) (.loop (R (if jump.isNone then .ready else .done) jump))).heap[w.heap.size + 1]? = some (.loop (R (if jump.isNone then .ready else .done) jump)) ∧
          (W3.putObj (w.heap.size + 1) (.loop (R (if jump.isNone then .ready else .done) jump))).heap[w.heap.size]? = some (.deferred (some [])) ∧
          KeepMid V.heap.size (V.heap.size + d) W (W3.putObj (w.heap.size + 1) (.loop (R (if jump.isNone then .ready else .done) jump))) := fun jump W3 hk3 => by
        have hk3s := hk3.size
        simp only [World.putObj_size] at hk3s
        have l3 := (hk3.same (w.heap.size + 1) (by omega) (by omega) (by simp; omega)).trans l2
        have d3 := (hk3.same w.heap.size (by omega) (by omega) (by simp; omega)).trans d2
        have he := run_endRound (P := P) jump l3
        rw [hR] at he ⊢
        refine ⟨he, World.putObj_heap_same (row_lt' l3), (World.putObj_heap_other (by omega)).trans d3, ⟨by simp; omega, fun i h1 h2 h3 => ?_⟩⟩
        rw [World.putObj_heap_other (by omega), hk3.same i (by omega) (by omega) (by simp; omega), World.putObj_heap_other (by omega)]
        exact hb1.block i h3
      intro e2 a3 W3 hp
      cases e2 with
      | normal =>
        obtain ⟨k3, i3'⟩ := hp
        obtain ⟨f1, f2, f3, f4⟩ := fin none W3 k3
        exact ⟨_, _, f1, .inl ⟨rfl, ⟨hI _ _ _ i3' (.putObj _ _ (by omega) (by omega)), by have := f4.size; omega, f2, f3⟩, f4⟩⟩
      | ret =>
        obtain ⟨k3, i3'⟩ := hp
        obtain ⟨f1, f2, f3, f4⟩ := fin (some .ret) W3 k3
        exact ⟨_, _, f1, .inr ⟨rfl, ⟨.ret, hIx _ _ _ _ i3' (.putObj _ _ (by omega) (by omega)), f2, f3⟩, f4⟩⟩
      | exit id =>
        obtain ⟨k3, i3'⟩ := hp
        obtain ⟨f1, f2, f3, f4⟩ := fin (some (.exit id)) W3 k3
        exact ⟨_, _, f1, .inr ⟨rfl, ⟨.exit id, hIx _ _ _ _ i3' (.putObj _ _ (by omega) (by omega)), f2, f3⟩, f4⟩⟩
      | goto t =>
        obtain ⟨k3, i3'⟩ := hp
        obtain ⟨f1, f2, f3, f4⟩ := fin (some (.goto t)) W3 k3
        exact ⟨_, _, f1, .inr ⟨rfl, ⟨.goto t, hIx _ _ _ _ i3' (.putObj _ _ (by omega) (by omega)), f2, f3⟩, f4⟩⟩
      | panic ch => exact hp.elim
      | outgrown => exact hp.elim
    | exit id => exact hx.elim
    | goto t => exact hx.elim
    | ret => exact hx.elim
    | panic chain => exact hx.elim
    | outgrown => exact hx.elim
  · rintro e W2 ⟨⟨v, rfl⟩, h⟩
    rcases h with ⟨i1, _, i3, i4⟩ | ⟨k, k0, k1, c, i1, i3, i4⟩
    · refine ⟨none, _, (by have := run_endLoop (P := P) i3 (by rw [hR]; simp); rw [hR] at this; exact this), ?_⟩
      exact hdone _ (hI _ _ _ i1 (.putObj _ _ (by omega) (by omega))) ((World.putObj_heap_other (by omega)).trans i4)
    · refine ⟨some c, _, (by have := run_endLoop (P := P) i3 (by rw [hR]; simp); rw [hR] at this; exact this), ?_⟩
      exact hstop c k _ k0 k1 (hIx _ _ _ _ i1 (.putObj _ _ (by omega) (by omega))) ((World.putObj_heap_other (by omega)).trans i4)
end Go.Proofs.Ytglkjiimmlobbaa
/-
  A LOOP OVER A FUNCTION WHOSE VALUES LIE IN MEMORY (a slice that the iterator goes on with): what is handed out is told by a relation on the world of the round.
-/
namespace Go.Proofs.Ytglkjiimmlobbaa
open Go.RowKit
variable {F : Fence} {n : Nat} {P : Program}
/-- what an iterator promises: it hands out m values, the k-th one as E says in the world of its round, till a round says no -/
def IterR (F : Fence) (n : Nat) (P : Program) (gf : Nat) (fa lb : Array Value) (m : Nat) (E : Nat → World → Value → Prop) (G : World → Prop) (d : Nat) (W : World) : Prop :=
  ∀ (l : Nat) (J Jx : Nat → World → Prop), (∀ k A B, J k A → BelowD W.heap.size (W.heap.size + d) A B → J k B) → (∀ k A B, Jx k A → BelowD W.heap.size (W.heap.size + d) A B → Jx k B) →
    (∀ k A, J k A → G A) → (∀ (k : Nat) (_ : k < m) (W1 : World) (v : Value), W.heap.size + d ≤ W1.heap.size → J k W1 → E k W1 v → YieldAt F (n - 1) P l #[v] W1 fun e W2 =>
      (e = .returned (.bool true) ∧ J (k + 1) W2 ∧ KeepMid W.heap.size (W.heap.size + d) W1 W2) ∨ (e = .returned (.bool false) ∧ Jx (k + 1) W2 ∧ KeepMid W.heap.size (W.heap.size + d) W1 W2)) →
    J 0 W →
    CallsIn F n P gf (fa ++ #[.func (.yield l) #[] #[]] ++ lb) W fun e W' => (∃ v, e = .returned v) ∧ (J m W' ∨ ∃ k, 0 < k ∧ k ≤ m ∧ Jx k W')
/-- the law of the loop -/
theorem wpIn_loopR {g : Operand} {ps : Array Tmp} {assign body : Code} {Q : Exit → Act → World → Prop} {a : Act} {w : World}
    (hro : F.round = none) (h1 : 1 ≤ n) {gf : Nat} {fa lb : Array Value} (hg : a.eval g = .func (.func gf) fa lb) (hFg : F.fn gf) (eg : Enters P gf)
    {m : Nat} {E : Nat → Nat → World → Value → Prop} {G : World → Prop} (d : Nat) (hseq : ∀ W, Below w.heap.size w W → G W → W.heap.size = w.heap.size + 2 → IterR F (n - 1) P gf fa lb m (E W.heap.size) G d W) (hps : ps.size = 1)
    (I : Nat → World → Prop) (Ix : Code → Nat → World → Prop) (hI : ∀ k A B, I k A → BelowD w.heap.size (w.heap.size + 2 + d) A B → I k B) (hIx : ∀ c k A B, Ix c k A → BelowD w.heap.size (w.heap.size + 2 + d) A B → Ix c k B) (hG : ∀ k A, I k A → G A) (h0 : I 0 w)
    (hround : ∀ (l k : Nat) (_ : k < m) (W : World) (v : Value), w.heap.size ≤ l → l < w.heap.size + 2 → w.heap.size + 2 + d ≤ W.heap.size → I k W → E (w.heap.size + 2) k W v →
      assign.wpIn (F.inRound l) (n - 1 - 1) P (Exit.then (fun a₁ W₁ => Below W.heap.size W W₁ ∧ ∀ o : Obj, body.wpIn (F.inRound l) (n - 1 - 1) P (roundEndD w.heap.size (w.heap.size + 2 + d) I Ix (k + 1) (W₁.putObj l o)) a₁ (W₁.putObj l o)) (fun _ _ _ => False))
        { tmps := (ps.zip #[v]).foldl (fun t (p, v) => t.setIfInBounds p v) a.tmps, defers := [] } W)
    (hdone : ∀ (W : World), I m W → W.heap[w.heap.size]? = some (.deferred (some [])) → Q .normal { a with defers := { target := .collected w.heap.size, args := #[] } :: a.defers } W)
    (hstop : ∀ (c : Code) (k : Nat) (W : World), 0 < k → k ≤ m → Ix c k W → W.heap[w.heap.size]? = some (.deferred (some [])) → c.wpIn F n P Q { a with defers := { target := .collected w.heap.size, args := #[] } :: a.defers } W) :
    (Code.rangeFunc g ps assign body).wpIn F n P Q a w := by
  refine wpIn_rangeFunc fun fn hfn => ?_
  rw [hro]
  obtain ⟨R, hR⟩ : ∃ R : LoopState → Option Code → Loop, R = fun st pe => { state := st, pending := pe, fn, tmps := a.tmps, params := ps, assign, body, defers := w.heap.size } := ⟨_, rfl⟩
  obtain ⟨V, hV⟩ : ∃ V, (w.alloc (.deferred (some []))).alloc (.loop (R .ready none)) = V := ⟨_, rfl⟩
  have hVs : V.heap.size = w.heap.size + 2 := by rw [← hV]; simp
  have hwV : Below w.heap.size w V := by rw [← hV]; exact ((Below.refl _ w).alloc (Nat.le_refl _) _).alloc (by simp) _
  have hVl : V.heap[w.heap.size + 1]? = some (.loop (R .ready none)) := by rw [← hV]; exact alloc_obj _ _ _ (by simp)
  have hVd : V.heap[w.heap.size]? = some (.deferred (some [])) := by rw [← hV]; exact (Below.heap_alloc _ _ _ (by simp)).trans (alloc_obj _ _ _ rfl)
  refine ⟨w.heap.size + 1, [{ target := .collected w.heap.size, args := #[] }], V, { target := .fn (.func gf) lb, args := fa ++ #[.func (.yield (w.heap.size + 1)) #[] #[]] }, V, gf,
    fa ++ #[.func (.yield (w.heap.size + 1)) #[] #[]] ++ lb, V, ?_, ?_, ?_, ?_, fun _ => h1, ?_⟩
  · rw [← hV, hR]; exact run_enterLoop_outer _ _ _ _ _
  · simp only [resolve, hg]
    simp [go_sem]
  · intro f' hf'; simp [Target.leads] at hf'; subst hf'; exact hFg
  · have he : (callFunc gf (fa ++ #[.func (.yield (w.heap.size + 1)) #[] #[]] ++ lb)).run P V = .ok (.enter gf (fa ++ #[.func (.yield (w.heap.size + 1)) #[] #[]] ++ lb)) V := eg _ _
    simp only [invoke]
    exact he
  have hwD : BelowD w.heap.size (w.heap.size + 2 + d) w V := .of_below hwV (Nat.le_refl _) (Nat.le_refl _)
  refine (hseq V hwV (hG 0 _ (hI 0 w V h0 hwD)) hVs (w.heap.size + 1)
    (fun k W => I k W ∧ V.heap.size ≤ W.heap.size ∧ W.heap[w.heap.size + 1]? = some (.loop (R .ready none)) ∧ W.heap[w.heap.size]? = some (.deferred (some [])))
    (fun k W => ∃ c, Ix c k W ∧ W.heap[w.heap.size + 1]? = some (.loop (R .done (some c))) ∧ W.heap[w.heap.size]? = some (.deferred (some [])))
    (fun k A B ⟨j1, j2, j3, j4⟩ hb => ⟨hI k A B j1 (hb.mono (by omega) (by omega)), Nat.le_trans j2 hb.low.size, (hb.low.block _ (by omega)).trans j3, (hb.low.block _ (by omega)).trans j4⟩)
    (fun k A B ⟨c, j1, j3, j4⟩ hb => ⟨c, hIx c k A B j1 (hb.mono (by omega) (by omega)), (hb.low.block _ (by omega)).trans j3, (hb.low.block _ (by omega)).trans j4⟩)
    (fun k A ⟨j1, _⟩ => hG k A j1) ?_ ⟨hI 0 w V h0 hwD, Nat.le_refl _, hVl, hVd⟩).mono ?_
  · rintro k hk W v hd ⟨i1, i2, i3, i4⟩ hE
    have hy := run_yield (P := P) (args := #[v]) i3 (by rw [hR]; simp [hps])
    rw [hR] at hy
    refine ⟨fn, _, assign, body, hy, roundIn_of_wpIn hfn (wpIn_mono (hround (w.heap.size + 1) k hk W v (by omega) (by omega) (by omega) i1 (by rw [← hVs]; exact hE)) ?_)⟩
    intro e a₁ W₁ hx
    cases e with
    | normal =>
      obtain ⟨hb1, hbody⟩ := hx
      have l1 : W₁.heap[w.heap.size + 1]? = some (.loop (R .ready none)) := (hb1.block _ (by omega)).trans i3
      have d1 : W₁.heap[w.heap.size]? = some (.deferred (some [])) := (hb1.block _ (by omega)).trans i4
      refine ⟨_, run_beginRound l1 (by rw [hR]), wpIn_mono (hbody _) ?_⟩
      have l2 : (W₁.putObj (w.heap.size + 1) (.loop { R .ready none with state := .busy })).heap[w.heap.size + 1]? = some (.loop { R .ready none with state := .busy }) := World.putObj_heap_same (row_lt' l1)
      have d2 : (W₁.putObj (w.heap.size + 1) (.loop { R .ready none with state := .busy })).heap[w.heap.size]? = some (.deferred (some [])) := (World.putObj_heap_other (by omega)).trans d1
      have s1 := hb1.size
      have fin : ∀ (jump : Option Code) (W3 : World), KeepMid w.heap.size (w.heap.size + 2 + d) (W₁.putObj (w.heap.size + 1) (.loop { R .ready none with state := .busy })) W3 →
          (Instr.endRound (w.heap.size + 1) jump).run P W3 = .ok (.bool jump.isNone) (W3.putObj (w.heap.size + 1) (.loop (R (if jump.isNone then .ready else .done) jump))) ∧
          (W3.putObj (w.heap.size + 1) (.loop (R (if jump.isNone then .ready else .done) jump))).heap[w.heap.size + 1]? = some (.loop (R (if jump.isNone then .ready else .done) jump)) ∧
          (W3.putObj (w.heap.size + 1) (.loop (R (if jump.isNone then .ready else .done) jump))).heap[w.heap.size]? = some (.deferred (some [])) ∧
          KeepMid V.heap.size (V.heap.size + d) W (W3.putObj (w.heap.size + 1) (.loop (R (if jump.isNone then .ready else .done) jump))) := fun jump W3 hk3 => by
        have hk3s := hk3.size
        simp only [World.putObj_size] at hk3s
        have l3 := (hk3.same (w.heap.size + 1) (by omega) (by omega) (by simp; omega)).trans l2
        have d3 := (hk3.same w.heap.size (by omega) (by omega) (by simp; omega)).trans d2
        have he := run_endRound (P := P) jump l3
        rw [hR] at he ⊢
        refine ⟨he, World.putObj_heap_same (row_lt' l3), (World.putObj_heap_other (by omega)).trans d3, ⟨by simp; omega, fun i h1 h2 h3 => ?_⟩⟩
        rw [World.putObj_heap_other (by omega), hk3.same i (by omega) (by omega) (by simp; omega), World.putObj_heap_other (by omega)]
        exact hb1.block i h3
      intro e2 a3 W3 hp
      cases e2 with
      | normal =>
        obtain ⟨k3, i3'⟩ := hp
        obtain ⟨f1, f2, f3, f4⟩ := fin none W3 k3
        exact ⟨_, _, f1, .inl ⟨rfl, ⟨hI _ _ _ i3' (.putObj _ _ (by omega) (by omega)), by have := f4.size; omega, f2, f3⟩, f4⟩⟩
      | ret =>
        obtain ⟨k3, i3'⟩ := hp
        obtain ⟨f1, f2, f3, f4⟩ := fin (some .ret) W3 k3
        exact ⟨_, _, f1, .inr ⟨rfl, ⟨.ret, hIx _ _ _ _ i3' (.putObj _ _ (by omega) (by omega)), f2, f3⟩, f4⟩⟩
      | exit id =>
        obtain ⟨k3, i3'⟩ := hp
        obtain ⟨f1, f2, f3, f4⟩ := fin (some (.exit id)) W3 k3
        exact ⟨_, _, f1, .inr ⟨rfl, ⟨.exit id, hIx _ _ _ _ i3' (.putObj _ _ (by omega) (by omega)), f2, f3⟩, f4⟩⟩
      | goto t =>
        obtain ⟨k3, i3'⟩ := hp
        obtain ⟨f1, f2, f3, f4⟩ := fin (some (.goto t)) W3 k3
        exact ⟨_, _, f1, .inr ⟨rfl, ⟨.goto t, hIx _ _ _ _ i3' (.putObj _ _ (by omega) (by omega)), f2, f3⟩, f4⟩⟩
      | panic ch => exact hp.elim
      | outgrown => exact hp.elim
    | exit id => exact hx.elim
    | goto t => exact hx.elim
    | ret => exact hx.elim
    | panic chain => exact hx.elim
    | outgrown => exact hx.elim
  · rintro e W2 ⟨⟨v, rfl⟩, h⟩
    rcases h with ⟨i1, _, i3, i4⟩ | ⟨k, k0, k1, c, i1, i3, i4⟩
    · refine ⟨none, _, (by have := run_endLoop (P := P) i3 (by rw [hR]; simp); rw [hR] at this; exact this), ?_⟩
      exact hdone _ (hI _ _ _ i1 (.putObj _ _ (by omega) (by omega))) ((World.putObj_heap_other (by omega)).trans i4)
    · refine ⟨some c, _, (by have := run_endLoop (P := P) i3 (by rw [hR]; simp); rw [hR] at this; exact this), ?_⟩
      exact hstop c k _ k0 k1 (hIx _ _ _ _ i1 (.putObj _ _ (by omega) (by omega))) ((World.putObj_heap_other (by omega)).trans i4)
end Go.Proofs.Ytglkjiimmlobbaa
/-
  A REGION THAT DRAWS ITS ORDER, INSIDE A ROUND, BY AN INVARIANT.
-/
namespace Go
section
variable {P : Program} {ops : Array Oper} {Q : Exit → Act → World → Prop}
theorem wpIn_of_wp_op {l n : Nat} {o : Oper} {a : Act} {w : World} {K : Act → World → Prop} (hd : ∀ c, o.op ≠ .defer c) (h : o.wp P a w K Q) : o.wpIn (Fence.wide.inRound l) n P a w K Q := by
  refine ⟨fun _ _ => trivial, ?_⟩
  rw [Oper.semAt_eq _ _ _ hd]
  unfold Oper.wp at h
  revert h
  cases (execOp a.eval o).run P w with
  | ok x w' =>
    cases x <;> intro h <;> first
      | exact (h : False).elim
      | exact ⟨fun h' => by simp [Fence.wide] at h', CallsIn.inRound l (callsIn_wide.2 h)⟩
      | exact ⟨fun h' => by simp [Fence.wide] at h', fun c cs _ => (by
          obtain ⟨v, w2, r, s⟩ := h c cs
          exact ⟨v, w2, r, stepsIn_wide.2 s⟩)⟩
      | exact h
  | halt x w' => cases x <;> exact fun h => h
theorem wpAnyIn_inv {l n : Nat} (hnd : ∀ o ∈ ops, ∀ c, o.op ≠ .defer c) (J : Array Bool → Act → World → Prop)
    (hs : ∀ (i : Nat) (L : Array Bool) (a : Act) (w : World), J L a w → i ∈ Region.ready .any ops L → ∃ o, ops[i]? = some o ∧ Region.wanted o (yielded ops a.tmps) = true ∧ o.wp P a w (J (L.setIfInBounds i true)) Q)
    (hd : ∀ (L : Array Bool) (a : Act) (w : World), J L a w → Region.ready .any ops L = [] → Q .normal a w) :
    ∀ (fuel : Nat) (L : Array Bool) (a : Act) (w : World), L.size = ops.size → (L.toList.countP (! ·)) ≤ fuel → J L a w → wpAnyIn (Fence.wide.inRound l) n P .any ops Q fuel L a w := by
  intro fuel
  induction fuel with
  | zero =>
    intro L a w hL hc hJ
    have hr : Region.ready .any ops L = [] := by
      rw [List.eq_nil_iff_forall_not_mem]
      intro i hi
      have h0 := (mem_ready.1 hi).1
      have hlt : i < L.size := by
        rcases Nat.lt_or_ge i L.size with h' | h'
        · exact h'
        · simp [Array.getElem?_eq_none h'] at h0
      have h1 : 0 < L.toList.countP (! ·) := by
        rw [List.countP_pos_iff]
        exact ⟨L[i], by simp, by simpa [hlt] using h0⟩
      omega
    exact ⟨hr, hd L a w hJ hr⟩
  | succ fuel ih =>
    intro L a w hL hc hJ
    refine ⟨fun hr => hd L a w hJ hr, fun i hi => ?_⟩
    obtain ⟨o, ho, hw, hp⟩ := hs i L a w hJ hi
    have h0 := (mem_ready.1 hi).1
    have hlt : i < L.size := by
      rcases Nat.lt_or_ge i L.size with h' | h'
      · exact h'
      · simp [Array.getElem?_eq_none h'] at h0
    have hb : L[i] = false := by simpa [hlt] using h0
    have h2 : (L.setIfInBounds i true).toList.countP (! ·) + 1 = L.toList.countP (! ·) := by
      rw [Array.toList_setIfInBounds]
      have e : L.toList = L.toList.take i ++ L[i] :: L.toList.drop (i + 1) := by
        have := List.take_append_drop i L.toList
        rw [List.drop_eq_getElem_cons (by simpa using hlt)] at this
        simpa using this.symm
      have e2 : L.toList.set i true = L.toList.take i ++ true :: L.toList.drop (i + 1) := by
        rw [List.set_eq_take_append_cons_drop, if_pos (by simpa using hlt)]
      rw [e2]
      conv => rhs; rw [e]
      simp [List.countP_append, hb]
      omega
    unfold wpOpIn
    rw [ho]
    simp only [hw, if_true]
    exact wpIn_of_wp_op (hnd o (Array.mem_of_getElem? ho)) (Oper.wp_mono (fun a' w' h' => ih _ a' w' (by simpa using hL) (by omega) h') hp)
/-- the rule -/
theorem wpIn_region_inv {l n : Nat} {id : Nat} {a : Act} {w : World} (hm : P.follows .mixedOrders = true) (hnd : ∀ o ∈ ops, ∀ c, o.op ≠ .defer c) (J : Array Bool → Act → World → Prop)
    (h0 : J (Array.replicate ops.size false) a w.drew)
    (hs : ∀ (i : Nat) (L : Array Bool) (a : Act) (w : World), J L a w → i ∈ Region.ready .any ops L → ∃ o, ops[i]? = some o ∧ Region.wanted o (yielded ops a.tmps) = true ∧ o.wp P a w (J (L.setIfInBounds i true)) Q)
    (hd : ∀ (L : Array Bool) (a : Act) (w : World), J L a w → Region.ready .any ops L = [] → Q .normal a w) : (Code.region id ops true).wpIn (Fence.wide.inRound l) n P Q a w :=
  wpIn_region_any hm (wpAnyIn_inv hnd J hs hd ops.size _ a _ (by simp) (by simp [List.countP_replicate]) h0)
end
end Go
