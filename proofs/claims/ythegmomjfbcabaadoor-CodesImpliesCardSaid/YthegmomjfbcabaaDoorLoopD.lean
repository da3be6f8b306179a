/-
  A LOOP OVER A FUNCTION, ITS ROUNDS MAKING MEMORY THAT STAYS: the iterator owns the blocks of a window; what is made from the window's end on it leaves alone.
-/
import Derived.Test.YthegmomjfbcabaaDoorAdv
import Derived.Test.YthegmomjfbcabaaDoorRead
namespace Go.Proofs.YthegmomjfbcabaaDoor
open Go.RowKit
/-- below lo nothing turns, nor in what stands from hi on -/
structure BelowD (lo hi : Nat) (A B : World) : Prop where
  low : Below lo A B
  high : ∀ b, hi ≤ b → b < A.heap.size → B.heap[b]? = A.heap[b]?
theorem BelowD.refl (lo hi : Nat) (A : World) : BelowD lo hi A A := ⟨Below.refl _ _, fun _ _ _ => rfl⟩
theorem BelowD.trans {lo hi : Nat} {X Y Z : World} (h : BelowD lo hi X Y) (k : BelowD lo hi Y Z) : BelowD lo hi X Z :=
  ⟨h.low.trans k.low, fun b h1 h2 => (k.high b h1 (Nat.lt_of_lt_of_le h2 h.low.size)).trans (h.high b h1 h2)⟩
theorem BelowD.mono {lo hi lo' hi' : Nat} {X Y : World} (h : BelowD lo hi X Y) (h1 : lo' ≤ lo) (h2 : hi ≤ hi') : BelowD lo' hi' X Y := ⟨h.low.mono h1, fun b e => h.high b (Nat.le_trans h2 e)⟩
theorem BelowD.of_below {lo hi n : Nat} {X Y : World} (h : Below n X Y) (hn : X.heap.size ≤ n) (hl : lo ≤ n) : BelowD lo hi X Y := ⟨h.mono hl, fun b _ h2 => h.block b (Nat.lt_of_lt_of_le h2 hn)⟩
theorem BelowD.putObj {lo hi : Nat} (W : World) {l : Nat} (o : Obj) (h1 : lo ≤ l) (h2 : l < hi) : BelowD lo hi W (W.putObj l o) := ⟨below_putObj W o h1, fun _ e _ => World.putObj_heap_other (by omega)⟩
/-- what stands from lo on, below hi, stays -/
structure KeepMid (lo hi : Nat) (A B : World) : Prop where
  size : A.heap.size ≤ B.heap.size
  same : ∀ b, lo ≤ b → b < hi → b < A.heap.size → B.heap[b]? = A.heap[b]?
theorem KeepMid.refl (lo hi : Nat) (A : World) : KeepMid lo hi A A := ⟨Nat.le_refl _, fun _ _ _ _ => rfl⟩
theorem KeepMid.trans {lo hi : Nat} {X Y Z : World} (h : KeepMid lo hi X Y) (k : KeepMid lo hi Y Z) : KeepMid lo hi X Z :=
  ⟨Nat.le_trans h.size k.size, fun b h0 h1 h2 => (k.same b h0 h1 (Nat.lt_of_lt_of_le h2 h.size)).trans (h.same b h0 h1 h2)⟩
theorem KeepMid.mono {lo hi lo' hi' : Nat} {X Y : World} (h : KeepMid lo hi X Y) (h1 : lo ≤ lo') (h2 : hi' ≤ hi) : KeepMid lo' hi' X Y := ⟨h.size, fun b a c => h.same b (Nat.le_trans h1 a) (Nat.lt_of_lt_of_le c h2)⟩
theorem KeepMid.of_below {lo hi n : Nat} {X Y : World} (h : Below n X Y) (hn : hi ≤ n) : KeepMid lo hi X Y := ⟨h.size, fun b _ h1 _ => h.block b (Nat.lt_of_lt_of_le h1 hn)⟩
theorem KeepMid.of_call {lo hi n : Nat} {X Y : World} (h : Below n X Y) (hn : X.heap.size ≤ n) : KeepMid lo hi X Y := ⟨h.size, fun b _ _ h2 => h.block b (Nat.lt_of_lt_of_le h2 hn)⟩
theorem KeepMid.setCell {lo hi : Nat} (X : World) {p : Addr} (hp : p.block < lo ∨ hi ≤ p.block) (v : Value) : KeepMid lo hi X (X.setCell p v) :=
  ⟨by simp [World.setCell], fun i h1 h2 _ => Below.heap_setCell _ _ _ _ (by omega)⟩
variable {F : Fence} {n : Nat} {P : Program}
/-- what an iterator promises: it hands out xs, one after the other, till a round says no -/
def IterD (F : Fence) (n : Nat) (P : Program) (gf : Nat) (fa lb : Array Value) (enc : List Int → Value) (xs : List (List Int)) (G : World → Prop) (d : Nat) (W : World) : Prop :=
  ∀ (l : Nat) (J Jx : Nat → World → Prop), (∀ k A B, J k A → BelowD W.heap.size (W.heap.size + d) A B → J k B) → (∀ k A B, Jx k A → BelowD W.heap.size (W.heap.size + d) A B → Jx k B) →
    (∀ k A, J k A → G A) → (∀ (k : Nat) (hk : k < xs.length) (W1 : World), W.heap.size + d ≤ W1.heap.size → J k W1 → YieldAt F (n - 1) P l #[enc xs[k]] W1 fun e W2 =>
      (e = .returned (.bool true) ∧ J (k + 1) W2 ∧ KeepMid W.heap.size (W.heap.size + d) W1 W2) ∨ (e = .returned (.bool false) ∧ Jx (k + 1) W2 ∧ KeepMid W.heap.size (W.heap.size + d) W1 W2)) →
    J 0 W →
    CallsIn F n P gf (fa ++ #[.func (.yield l) #[] #[]] ++ lb) W fun e W' => (∃ v, e = .returned v) ∧ (J xs.length W' ∨ ∃ k, 0 < k ∧ k ≤ xs.length ∧ Jx k W')
/-- how the body of a round may be left -/
def roundEndD (B C : Nat) (I : Nat → World → Prop) (Ix : Code → Nat → World → Prop) (k : Nat) (W : World) : Exit → Act → World → Prop
  | .normal, _, W' => KeepMid B C W W' ∧ I k W'
  | .ret, _, W' => KeepMid B C W W' ∧ Ix .ret k W'
  | .exit id, _, W' => KeepMid B C W W' ∧ Ix (.exit id) k W'
  | .goto t, _, W' => KeepMid B C W W' ∧ Ix (.goto t) k W'
  | .panic _, _, _ => False
  | .outgrown, _, _ => False
/-- the law of the loop -/
theorem wpIn_loopD {g : Operand} {ps : Array Tmp} {assign body : Code} {Q : Exit → Act → World → Prop} {a : Act} {w : World}
    (hro : F.round = none) (h1 : 1 ≤ n) {gf : Nat} {fa lb : Array Value} (hg : a.eval g = .func (.func gf) fa lb) (hFg : F.fn gf) (eg : Enters P gf)
    {enc : List Int → Value} {xs : List (List Int)} {G : World → Prop} (d : Nat) (hseq : ∀ W, Below w.heap.size w W → G W → W.heap.size = w.heap.size + 2 → IterD F (n - 1) P gf fa lb enc xs G d W) (hps : ps.size = 1)
    (I : Nat → World → Prop) (Ix : Code → Nat → World → Prop) (hI : ∀ k A B, I k A → BelowD w.heap.size (w.heap.size + 2 + d) A B → I k B) (hIx : ∀ c k A B, Ix c k A → BelowD w.heap.size (w.heap.size + 2 + d) A B → Ix c k B) (hG : ∀ k A, I k A → G A) (h0 : I 0 w)
    (hround : ∀ (l k : Nat) (hk : k < xs.length) (W : World), w.heap.size ≤ l → l < w.heap.size + 2 → w.heap.size + 2 + d ≤ W.heap.size → I k W →
      assign.wpIn (F.inRound l) (n - 1 - 1) P (Exit.then (fun a₁ W₁ => Below W.heap.size W W₁ ∧ ∀ o : Obj, body.wpIn (F.inRound l) (n - 1 - 1) P (roundEndD w.heap.size (w.heap.size + 2 + d) I Ix (k + 1) (W₁.putObj l o)) a₁ (W₁.putObj l o)) (fun _ _ _ => False))
        { tmps := (ps.zip #[enc xs[k]]).foldl (fun t (p, v) => t.setIfInBounds p v) a.tmps, defers := [] } W)
    (hdone : ∀ (W : World), I xs.length W → W.heap[w.heap.size]? = some (.deferred (some [])) → Q .normal { a with defers := { target := .collected w.heap.size, args := #[] } :: a.defers } W)
    (hstop : ∀ (c : Code) (k : Nat) (W : World), 0 < k → k ≤ xs.length → Ix c k W → W.heap[w.heap.size]? = some (.deferred (some [])) → c.wpIn F n P Q { a with defers := { target := .collected w.heap.size, args := #[] } :: a.defers } W) :
    (Code.rangeFunc g ps assign body).wpIn F n P Q a w := by
  refine wpIn_rangeFunc fun fn hfn => ?_
  rw [hro]
  obtain ⟨R, hR⟩ : ∃ R : LoopState → Option Code → Loop, R = fun st pe => { state := st, pending := pe, fn, tmps := a.tmps, params := ps, assign, body, defers := w.heap.size } := ⟨_, rfl⟩
  obtain ⟨V, hV⟩ : ∃ V, (w.alloc (.deferred (some []))).alloc (.loop (R .ready none)) = V := ⟨_, rfl⟩
  have hVs : V.heap.size = w.heap.size + 2 := by rw [← hV]; simp
  have hwV : Below w.heap.size w V := by rw [← hV]; exact ((Below.refl _ w).alloc (Nat.le_refl _) _).alloc (by simp) _
  have hVl : V.heap[w.heap.size + 1]? = some (.loop (R .ready none)) := by rw [← hV]; exact alloc_obj _ _ _ (by simp)
  have hVd : V.heap[w.heap.size]? = some (.deferred (some [])) := by rw [← hV]; exact (Below.heap_alloc _ _ _ (by simp)).trans (alloc_obj _ _ _ rfl)
  refine ⟨w.heap.size + 1, [{ target := .collected w.heap.size, args := #[] }], V, { target := .fn (.func gf) lb, args := fa ++ #[.func (.yield (w.heap.size + 1)) #[] #[]] }, V, gf,
    fa ++ #[.func (.yield (w.heap.size + 1)) #[] #[]] ++ lb, V, ?_, ?_, ?_, ?_, fun _ => h1, ?_⟩
  · rw [← hV, hR]; exact run_enterLoop_outer _ _ _ _ _
  · simp only [resolve, hg]
    simp [go_sem]
  · intro f' hf'; simp [Target.leads] at hf'; subst hf'; exact hFg
  · have he : (callFunc gf (fa ++ #[.func (.yield (w.heap.size + 1)) #[] #[]] ++ lb)).run P V = .ok (.enter gf (fa ++ #[.func (.yield (w.heap.size + 1)) #[] #[]] ++ lb)) V := eg _ _
    simp only [invoke]
    exact he
  have hwD : BelowD w.heap.size (w.heap.size + 2 + d) w V := .of_below hwV (Nat.le_refl _) (Nat.le_refl _)
  refine (hseq V hwV (hG 0 _ (hI 0 w V h0 hwD)) hVs (w.heap.size + 1)
    (fun k W => I k W ∧ V.heap.size ≤ W.heap.size ∧ W.heap[w.heap.size + 1]? = some (.loop (R .ready none)) ∧ W.heap[w.heap.size]? = some (.deferred (some [])))
    (fun k W => ∃ c, Ix c k W ∧ W.heap[w.heap.size + 1]? = some (.loop (R .done (some c))) ∧ W.heap[w.heap.size]? = some (.deferred (some [])))
    (fun k A B ⟨j1, j2, j3, j4⟩ hb => ⟨hI k A B j1 (hb.mono (by omega) (by omega)), Nat.le_trans j2 hb.low.size, (hb.low.block _ (by omega)).trans j3, (hb.low.block _ (by omega)).trans j4⟩)
    (fun k A B ⟨c, j1, j3, j4⟩ hb => ⟨c, hIx c k A B j1 (hb.mono (by omega) (by omega)), (hb.low.block _ (by omega)).trans j3, (hb.low.block _ (by omega)).trans j4⟩)
    (fun k A ⟨j1, _⟩ => hG k A j1) ?_ ⟨hI 0 w V h0 hwD, Nat.le_refl _, hVl, hVd⟩).mono ?_
  · rintro k hk W hd ⟨i1, i2, i3, i4⟩
    have hy := run_yield (P := P) (args := #[enc xs[k]]) i3 (by rw [hR]; simp [hps])
    rw [hR] at hy
    refine ⟨fn, _, assign, body, hy, roundIn_of_wpIn hfn (wpIn_mono (hround (w.heap.size + 1) k hk W (by omega) (by omega) (by omega) i1) ?_)⟩
    intro e a₁ W₁ hx
    cases e with
    | normal =>
      obtain ⟨hb1, hbody⟩ := hx
      have l1 : W₁.heap[w.heap.size + 1]? = some (.loop (R .ready none)) := (hb1.block _ (by omega)).trans i3
      have d1 : W₁.heap[w.heap.size]? = some (.deferred (some [])) := (hb1.block _ (by omega)).trans i4
      refine ⟨_, run_beginRound l1 (by rw [hR]), wpIn_mono (hbody _) ?_⟩
      have l2 : (W₁.putObj (w.heap.size + 1) (.loop { R .ready none with state := .busy })).heap[w.heap.size + 1]? = some (.loop { R .ready none with state := .busy }) := World.putObj_heap_same (row_lt' l1)
      have d2 : (W₁.putObj (w.heap.size + 1) (.loop { R .ready none with state := .busy })).heap[w.heap.size]? = some (.deferred (some [])) := (World.putObj_heap_other (by omega)).trans d1
      have s1 := hb1.size
      have fin : ∀ (jump : Option Code) (W3 : World), KeepMid w.heap.size (w.heap.size + 2 + d) (W₁.putObj (w.heap.size + 1) (.loop { R .ready none with state := .busy })) W3 →
          (Instr.endRound (w.heap.size + 1) jump).run P W3 = .ok (.bool jump.isNone) (W3.putObj (w.heap.size + 1) (.loop (R (if jump.isNone then .ready else .done) jump))) ∧
          (W3.putObj (w.heap.size + 1) (.loop (R (if jump.isNone then .ready else .done) jump))).heap[w.heap.size + 1]? = some (.loop (R (if jump.isNone then .ready else .done) jump)) ∧
          (W3.putObj (w.heap.size + 1) (.loop (R (if jump.isNone then .ready else .done) jump))).heap[w.heap.size]? = some (.deferred (some [])) ∧
          KeepMid V.heap.size (V.heap.size + d) W (W3.putObj (w.heap.size + 1) (.loop (R (if jump.isNone then .ready else .done) jump))) := fun jump W3 hk3 => by
        have hk3s := hk3.size
        simp only [World.putObj_size] at hk3s
        have l3 := (hk3.same (w.heap.size + 1) (by omega) (by omega) (by simp; omega)).trans l2
        have d3 := (hk3.same w.heap.size (by omega) (by omega) (by simp; omega)).trans d2
        have he := run_endRound (P := P) jump l3
        rw [hR] at he ⊢
        refine ⟨he, World.putObj_heap_same (row_lt' l3), (World.putObj_heap_other (by omega)).trans d3, ⟨by simp; omega, fun i h1 h2 h3 => ?_⟩⟩
        rw [World.putObj_heap_other (by omega), hk3.same i (by omega) (by omega) (by simp; omega), World.putObj_heap_other (by omega)]
        exact hb1.block i h3
      intro e2 a3 W3 hp
      cases e2 with
      | normal =>
        obtain ⟨k3, i3'⟩ := hp
        obtain ⟨f1, f2, f3, f4⟩ := fin none W3 k3
        exact ⟨_, _, f1, .inl ⟨rfl, ⟨hI _ _ _ i3' (.putObj _ _ (by omega) (by omega)), by have := f4.size; omega, f2, f3⟩, f4⟩⟩
      | ret =>
        obtain ⟨k3, i3'⟩ := hp
        obtain ⟨f1, f2, f3, f4⟩ := fin (some .ret) W3 k3
        exact ⟨_, _, f1, .inr ⟨rfl, ⟨.ret, hIx _ _ _ _ i3' (.putObj _ _ (by omega) (by omega)), f2, f3⟩, f4⟩⟩
      | exit id =>
        obtain ⟨k3, i3'⟩ := hp
        obtain ⟨f1, f2, f3, f4⟩ := fin (some (.exit id)) W3 k3
        exact ⟨_, _, f1, .inr ⟨rfl, ⟨.exit id, hIx _ _ _ _ i3' (.putObj _ _ (by omega) (by omega)), f2, f3⟩, f4⟩⟩
      | goto t =>
        obtain ⟨k3, i3'⟩ := hp
        obtain ⟨f1, f2, f3, f4⟩ := fin (some (.goto t)) W3 k3
        exact ⟨_, _, f1, .inr ⟨rfl, ⟨.goto t, hIx _ _ _ _ i3' (.putObj _ _ (by omega) (by omega)), f2, f3⟩, f4⟩⟩
      | panic ch => exact hp.elim
      | outgrown => exact hp.elim
    | exit id => exact hx.elim
    | goto t => exact hx.elim
    | ret => exact hx.elim
    | panic chain => exact hx.elim
    | outgrown => exact hx.elim
  · rintro e W2 ⟨⟨v, rfl⟩, h⟩
    rcases h with ⟨i1, _, i3, i4⟩ | ⟨k, k0, k1, c, i1, i3, i4⟩
    · refine ⟨none, _, (by have := run_endLoop (P := P) i3 (by rw [hR]; simp); rw [hR] at this; exact this), ?_⟩
      exact hdone _ (hI _ _ _ i1 (.putObj _ _ (by omega) (by omega))) ((World.putObj_heap_other (by omega)).trans i4)
    · refine ⟨some c, _, (by have := run_endLoop (P := P) i3 (by rw [hR]; simp); rw [hR] at this; exact this), ?_⟩
      exact hstop c k _ k0 k1 (hIx _ _ _ _ i1 (.putObj _ _ (by omega) (by omega))) ((World.putObj_heap_other (by omega)).trans i4)
end Go.Proofs.YthegmomjfbcabaaDoor
/-
  THE ITERATORS 'all' AND 'readings', with a window (LoopD).
-/
namespace Go.Proofs.YthegmomjfbcabaaDoor
open Go.RowKit Go.Shelf
attribute [local go_sem] Oper.semAt_some

set_option maxRecDepth 100000 in
set_option maxHeartbeats 2000000 in
theorem all_iterD (W S : Nat) (hW : 1 ≤ W) (hW4 : W ≤ 4) (hS : 2 ≤ S) (hS10 : S ≤ 10) (n : Nat) (hn : 1 ≤ n) (G : World → Prop) (W0 : World) :
    IterD Fence.wide n Tryd.prog 89 #[lockV W S] #[] rowV (allCodes W S) G 2 W0 := by
  intro l J Jx hJ hJx _ hY h0
  have hpos : 0 < S ^ W := Nat.pow_pos (by omega)
  have hn1 : 1 ≤ n := by omega
  show CallsIn Fence.wide n Tryd.prog 89 #[lockV W S, .func (.yield l) #[] #[]] W0 _
  refine callsIn_of_wp Tryd.func89 rfl trivial ?_ rfl
  simp only [Tryd.ntmps89, List.size_toArray, List.length_cons, List.length_nil, Nat.reduceAdd, Nat.reduceSub, Array.replicate_succ, Array.replicate_zero, List.push_toArray, List.append_toArray, List.nil_append, List.cons_append]
  gi_wp2
  gi_loopw [11] (fun _ wr => ∃ k : Nat, k < S ^ W ∧ J k wr ∧ W0.heap.size + 2 ≤ wr.heap.size ∧ wr.heap[W0.heap.size]? = some (.cells #[I W, I S] 78 (0, 0)) ∧ wr.heap[W0.heap.size + 1]? = some (.cells (rowF (nth (dig S W k))) 87 (0, 0))) (fun _ wr => S ^ W - idxOf W S (W0.heap.size + 1) wr)
  case atStart =>
    refine ⟨0, hpos, hJ 0 _ _ h0 (.of_below (((Below.refl _ _).alloc (Nat.le_refl _) _).alloc (by simp) _) (Nat.le_refl _) (Nat.le_refl _)), by simp, (Below.heap_alloc _ _ _ (by simp)).trans (alloc_obj _ _ _ rfl), ?_⟩
    rw [rowF_congr (nth (dig S W 0)) (fun _ => 0) (fun j _ => dig_zero S W j)]
    exact alloc_obj _ _ _ (by simp)
  case round =>
    obtain ⟨k, hk, hJk, hsz, hl, hr⟩ := hrel
    have c0 : wr.cell? ⟨W0.heap.size, 0, none⟩ = some (I W) := cell_of_row wr _ 0 _ _ _ hl
    have c1 : wr.cell? ⟨W0.heap.size, 1, none⟩ = some (I S) := cell_of_row wr _ 1 _ _ _ hl
    have r0 : wr.cell? ⟨W0.heap.size + 1, 0, none⟩ = some (I (nth (dig S W k) 0)) := cell_of_row wr _ 0 _ _ _ hr
    have r1 : wr.cell? ⟨W0.heap.size + 1, 1, none⟩ = some (I (nth (dig S W k) 1)) := cell_of_row wr _ 1 _ _ _ hr
    have r2 : wr.cell? ⟨W0.heap.size + 1, 2, none⟩ = some (I (nth (dig S W k) 2)) := cell_of_row wr _ 2 _ _ _ hr
    have r3 : wr.cell? ⟨W0.heap.size + 1, 3, none⟩ = some (I (nth (dig S W k) 3)) := cell_of_row wr _ 3 _ _ _ hr
    have hkl : k < (allCodes W S).length := by rw [allCodes_length]; exact hk
    obtain ⟨fn, tmps, assign, body, hy, hR⟩ := hY k hkl wr hsz hJk
    rw [allCodes_at] at hy
    have hrl := row_lt' hr
    have HK := Lib.hid hk
    have HI := Lib.hid (idxOf_eq hW4 hk hr)
    have HL := Lib.hid hl
    have HR := Lib.hid hr
    clear hk hl hr
    gi_wp2
    refine hR.mono ?_
    rintro e W3 (⟨rfl, hJ3, hk3⟩ | ⟨rfl, hJx3, _⟩)
    · have hl3 := (hk3.same _ (Nat.le_refl _) (by omega) (by omega)).trans HL.out
      have hr3 := (hk3.same _ (by omega) (by omega) hrl).trans HR.out
      clear c0 c1 r0 r1 r2 r3 hy
      have c0 : W3.cell? ⟨W0.heap.size, 0, none⟩ = some (I W) := cell_of_row W3 _ 0 _ _ _ hl3
      have c1 : W3.cell? ⟨W0.heap.size, 1, none⟩ = some (I S) := cell_of_row W3 _ 1 _ _ _ hl3
      have HL3 := Lib.hid hl3
      have HR3 := Lib.hid hr3
      have hs3 := hk3.size
      clear hl3 hr3
      gi_wp2_with fail
      refine ⟨trivial, ?_⟩
      refine (callsIn_wide.2 (advance_any W S hW hW4 hS hS10 k HK.out (W0.heap.size + 1) _ HR3.out)).mono ?_
      rintro e w' ⟨hg, ⟨hlt, rfl, hnx⟩ | ⟨hlast, rfl⟩⟩
      · have hb' : BelowD W0.heap.size (W0.heap.size + 2) W3 w' := ⟨(Below.refl _ _).grown hg (by omega) (fun r e => by cases e; omega), fun b h1 h2 => hg.block b h2 (fun e => by injection e with e; omega)⟩
        have HNX := Lib.hid hnx
        have HLT := Lib.hid hlt
        clear hnx hlt
        gi_wp2
        have hs' := hb'.low.size
        refine ⟨⟨k + 1, HLT.out, hJ _ _ _ hJ3 hb', by omega, ?_, HNX.out⟩, ?_⟩
        · exact (hg.block _ (by omega) (fun e => by injection e with e; omega)).trans HL3.out
        · rw [idxOf_eq hW4 HLT.out HNX.out, HI.out]
          have := HLT.out
          have := HK.out
          omega
      · have hb' : BelowD W0.heap.size (W0.heap.size + 2) W3 w' := ⟨(Below.refl _ _).grown hg (by omega) (fun r e => by cases e; omega), fun b h1 h2 => hg.block b h2 (fun e => by injection e with e; omega)⟩
        gi_wp2
        go_end0
        refine ⟨⟨_, rfl⟩, .inl ?_⟩
        rw [allCodes_length, ← hlast]
        exact hJ _ _ _ hJ3 hb'
    · gi_wp2
      refine ⟨trivial, ?_⟩
      gi_wp2
      go_end0
      exact ⟨⟨_, rfl⟩, .inr ⟨k + 1, by omega, by rw [allCodes_length]; have := HK.out; omega, hJx3⟩⟩

set_option maxRecDepth 100000 in
set_option maxHeartbeats 2000000 in
theorem readings_iterD (W S : Nat) (hW : 1 ≤ W) (hW4 : W ≤ 4) (hS : 2 ≤ S) (hS10 : S ≤ 10) (cs : List Cl) (hv : cluesB W S cs = true) (hl : cs.length ≤ maxLen) (A : Option Addr) (c b0 b1 : Nat) (n : Nat) (hn : 8 ≤ n) (B B' : Nat) (hB' : B' ≤ B) (W0 : World) (hB : B ≤ W0.heap.size)
    (hb0 : b0 < B) (hb1 : b1 < B) :
    IterD Fence.wide n Tryd.prog 109 #[] #[.pointer (some ⟨b0, 0, none⟩), .pointer (some ⟨b1, 0, none⟩)] rowV (readings W S cs)
      (fun w => w.cell? ⟨b0, 0, none⟩ = some (I W) ∧ w.cell? ⟨b0, 1, none⟩ = some (I S) ∧ w.cell? ⟨b1, 0, none⟩ = some (.slice A cs.length c) ∧ ClsR w B' A cs ∧ B ≤ w.heap.size) 5 W0 := by
  intro l J Jx hJ hJx hG hY h0
  have hL : lockOk W S = true := by simp [lockOk, wi]; omega
  show CallsIn Fence.wide n Tryd.prog 109 #[.func (.yield l) #[] #[], .pointer (some ⟨b0, 0, none⟩), .pointer (some ⟨b1, 0, none⟩)] W0 _
  refine callsIn_of_wp_marks Tryd.func109 rfl trivial ?_ rfl
  simp only [Tryd.ntmps109, List.size_toArray, List.length_cons, List.length_nil, Nat.reduceAdd, Nat.reduceSub, Array.replicate_succ, Array.replicate_zero, List.push_toArray, List.append_toArray, List.nil_append, List.cons_append]
  have hG0 := hG 0 _ h0
  obtain ⟨g0, g1, g2, gc, _⟩ := hG0
  have hn1 : 1 ≤ n := by omega
  have hb0' : b0 < W0.heap.size := by omega
  have hb1' : b1 < W0.heap.size := by omega
  gi_wp2
  obtain ⟨w, hw⟩ : ∃ w, w = W0.alloc (.cells #[.func (.yield l) #[] #[]] 139) := ⟨_, rfl⟩
  rw [← hw]
  have hbw : Below W0.heap.size W0 w := by rw [hw]; exact (Below.refl _ _).alloc (Nat.le_refl _) _
  have hsw : w.heap.size = W0.heap.size + 1 := by rw [hw]; simp
  have hyw : w.heap[W0.heap.size]? = some (.cells #[.func (.yield l) #[] #[]] 139 (0, 0)) := by rw [hw]; exact alloc_obj _ _ _ rfl
  clear hw
  refine wpIn_loopD rfl hn1 (gf := 89) (fa := #[lockV W S]) (lb := #[]) rfl trivial (enters_of Tryd.func89 (by kernel_rfl) rfl) (enc := rowV) (xs := allCodes W S) (G := fun _ => True) 2
    (fun W' _ _ _ => all_iterD W S hW hW4 hS hS10 (n - 1) (by omega) _ W') rfl
    (fun k W' => J (rk W cs (allCodes W S) k) W' ∧ W'.heap[W0.heap.size]? = some (.cells #[.func (.yield l) #[] #[]] 139 (0, 0)))
    (fun c _ W' => c = .ret ∧ ∃ j, 0 < j ∧ j ≤ (readings W S cs).length ∧ Jx j W')
    (fun k X Y h hb => ⟨hJ _ _ _ h.1 (hb.mono (by omega) (by omega)), (hb.low.block _ (by omega)).trans h.2⟩)
    (fun c k X Y h hb => ⟨h.1, by obtain ⟨_, j, j1, j2, j3⟩ := h; exact ⟨j, j1, j2, hJx _ _ _ j3 (hb.mono (by omega) (by omega))⟩⟩)
    (fun _ _ _ => trivial) ⟨hJ _ _ _ h0 (.of_below hbw (Nat.le_refl _) (Nat.le_refl _)), hyw⟩ ?round ?done ?stop
  case round =>
    rintro l' k hk X hl1 hl2 hl3 ⟨hJX, hyX⟩
    rw [allCodes_at]
    have hS0 : 0 < S := by omega
    have hsym := dig_Sym S W k hS0 hS10
    clear g0 g1 g2 gc
    gi_wp2
    refine ⟨(Below.refl _ _).alloc (Nat.le_refl _) _, fun o => ?_⟩
    obtain ⟨Y, hYd⟩ : ∃ Y, Y = (X.alloc (.cells #[I (nth (dig S W k) 0), I (nth (dig S W k) 1), I (nth (dig S W k) 2), I (nth (dig S W k) 3)] 87)).putObj l' o := ⟨_, rfl⟩
    rw [← hYd]
    have hXYD : BelowD W0.heap.size (W0.heap.size + 5) X Y := by
      rw [hYd]; exact (BelowD.of_below ((Below.refl _ _).alloc (Nat.le_refl _) _) (Nat.le_refl _) (by omega)).trans (.putObj _ _ (by omega) (by omega))
    have hXY : Below w.heap.size X Y := by
      rw [hYd]; exact ((Below.refl _ _).alloc (by omega) _).trans (below_putObj _ _ hl1)
    have hrY : Y.heap[X.heap.size]? = some (.cells #[I (nth (dig S W k) 0), I (nth (dig S W k) 1), I (nth (dig S W k) 2), I (nth (dig S W k) 3)] 87 (0, 0)) := by
      rw [hYd]; exact (World.putObj_heap_other (by omega)).trans (alloc_obj _ _ _ rfl)
    have hJY : J (rk W cs (allCodes W S) k) Y := hJ _ _ _ hJX hXYD
    have hyY := (hXY.block W0.heap.size (by omega)).trans hyX
    obtain ⟨g0, g1, g2, gc, gB⟩ := hG _ _ hJY
    have r0 : Y.cell? ⟨X.heap.size, 0, none⟩ = some (I (nth (dig S W k) 0)) := cell_of_row Y _ 0 _ _ _ hrY
    have r1 : Y.cell? ⟨X.heap.size, 1, none⟩ = some (I (nth (dig S W k) 1)) := cell_of_row Y _ 1 _ _ _ hrY
    have r2 : Y.cell? ⟨X.heap.size, 2, none⟩ = some (I (nth (dig S W k) 2)) := cell_of_row Y _ 2 _ _ _ hrY
    have r3 : Y.cell? ⟨X.heap.size, 3, none⟩ = some (I (nth (dig S W k) 3)) := cell_of_row Y _ 3 _ _ _ hrY
    have yc : Y.cell? ⟨W0.heap.size, 0, none⟩ = some (.func (.yield l) #[] #[]) := cell_of_row Y _ 0 _ _ _ hyY
    have HYR := Lib.hid hyY
    have HRR := Lib.hid hrY
    have hszY : X.heap.size < Y.heap.size := row_lt' hrY
    clear hYd hyY hrY hyX
    gi_wp2_with fail
    refine ⟨trivial, fun _ => by omega, ?_⟩
    refine (CallsIn.inRound l' (callsIn_wide.2 (broken_any W S hL cs hv (dig S W k) hsym A c _ (gc.more (Nat.le_trans hB' gB)) hl))).mono ?_
    rintro e Z ⟨rfl, hYZ⟩
    have hYZ' : Below W0.heap.size Y Z := hYZ.mono (by have := hXY.size; omega)
    have g0' := (hYZ'.cell (p := ⟨b0, 0, none⟩) (by show b0 < _; omega)).trans g0
    have ycZ : Z.cell? ⟨W0.heap.size, 0, none⟩ = some (.func (.yield l) #[] #[]) := (hYZ.cell (p := ⟨W0.heap.size, 0, none⟩) (by show W0.heap.size < _; have := row_lt' HYR.out; omega)).trans yc
    have rz := fun i => hYZ.cell (p := ⟨X.heap.size, i, none⟩) (by show X.heap.size < _; omega)
    have z0 := (rz 0).trans r0
    have z1 := (rz 1).trans r1
    have z2 := (rz 2).trans r2
    have z3 := (rz 3).trans r3
    have HYZ := Lib.hid ((hYZ.block W0.heap.size (row_lt' HYR.out)).trans HYR.out)
    have hJZ : J (rk W cs (allCodes W S) k) Z := hJ _ _ _ hJY (.of_below hYZ (Nat.le_refl _) (by have := hXY.size; omega))
    clear rz g0 g1 g2 r0 r1 r2 r3 yc
    cases hgd : good W cs (dig S W k)
    · have hq : ¬ brk W (dig S W k) cs 0 < 0 := by simpa [good] using hgd
      gi_wp2_with fail
      refine ⟨fun _ h => (by cases h), ?_⟩
      gi_wp2
      refine ⟨.of_call hYZ (Nat.le_refl _), ?_, HYZ.out⟩
      rw [rk_no hk (by rw [allCodes_at]; exact hgd)]
      exact hJZ
    · have hq : brk W (dig S W k) cs 0 < 0 := by simpa [good] using hgd
      obtain ⟨e1, hr, e2⟩ := rk_yes (W := W) (cs := cs) hk (by rw [allCodes_at]; exact hgd)
      rw [allCodes_at] at e2
      obtain ⟨fn, tmps, assign, body, hy, hR⟩ := hY _ hr Z (by have := hYZ.size; have := hXY.size; omega) hJZ
      have hR' : RoundIn (Fence.wide.inRound l') (n - 1 - 1 - 1) Tryd.prog l fn tmps assign body Z _ := ⟨hR.1, fun c cs _ => hR.2 c cs (room_wide _)⟩
      rw [show (readings W S cs)[rk W cs (allCodes W S) k]'hr = dig S W k from e2] at hy
      clear hR
      gi_wp2_with fail
      refine ⟨fun _ => by omega, hR'.mono ?_⟩
      rintro e V (⟨rfl, hJ3, hk3⟩ | ⟨rfl, hJx3, hk3⟩)
      · gi_wp2
        refine ⟨.trans (.of_call hYZ (Nat.le_refl _)) (hk3.mono (by omega) (by omega)), by rw [e1]; exact hJ3, ?_⟩
        exact (hk3.same _ (Nat.le_refl _) (by omega) (row_lt' HYZ.out)).trans HYZ.out
      · gi_wp2
        exact ⟨.trans (.of_call hYZ (Nat.le_refl _)) (hk3.mono (by omega) (by omega)), rfl, _, by omega, hr, hJx3⟩
  case done =>
    rintro X ⟨hJX, hyX⟩ hK
    rw [rk_all] at hJX
    clear g0 g1 g2 gc
    gi_wp2
    refine ⟨by simp, .inl ⟨_, _, rfl, run_takeDeferred hK, ?_⟩⟩
    refine ⟨_, results_none rfl _ _ _, ⟨_, rfl⟩, .inl ?_⟩
    exact hJ _ _ _ hJX (.putObj _ _ (by omega) (by omega))
  case stop =>
    rintro c' k X k0 k1 ⟨rfl, j, j0, j1, hj⟩ hK
    clear g0 g1 g2 gc
    gi_wp2
    refine ⟨by simp, .inl ⟨_, _, rfl, run_takeDeferred hK, ?_⟩⟩
    refine ⟨_, results_none rfl _ _ _, ⟨_, rfl⟩, .inr ⟨j, j0, j1, ?_⟩⟩
    exact hJx _ _ _ hj (.putObj _ _ (by omega) (by omega))
end Go.Proofs.YthegmomjfbcabaaDoor
