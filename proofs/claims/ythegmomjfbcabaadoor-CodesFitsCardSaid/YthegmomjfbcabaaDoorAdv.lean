/-
  CONTRACT: advance.
-/
import Derived.Test.YthegmomjfbcabaaDoorHolds
import Derived.BigRegion
import Derived.RangeFuncBound
namespace Go.Proofs.YthegmomjfbcabaaDoor
open Go.RowKit
theorem only_drewN {a w : World} {row : Option Nat} (h : a.grownBy w row) (n : Nat) : a.grownBy (w.drewN n) row := ⟨h.os, h.tape, h.output, h.size, h.block⟩
theorem only_drew {a w : World} {row : Option Nat} (h : a.grownBy w row) : a.grownBy w.drew row := ⟨h.os, h.tape, h.output, h.size, h.block⟩
theorem only_setCell {a w : World} {g : Nat} (h : a.grownBy w (some g)) {p : Addr} (hp : p.block = g ∨ a.heap.size ≤ p.block) (u : Value) : a.grownBy (w.setCell p u) (some g) :=
  ⟨h.os, h.tape, h.output, by simpa [World.setCell] using h.size, fun i hi hne => (Below.heap_setCell w p u i (by
    rintro rfl
    rcases hp with hp | hp
    · exact hne (by rw [hp])
    · omega)).trans (h.block i hi hne)⟩
theorem only_alloc_left {a w : World} {g : Nat} {o : Obj} (h : (a.alloc o).grownBy w (some g)) : a.grownBy w (some g) :=
  ⟨h.os, h.tape, h.output, by have := h.size; simp at this; omega, fun i hi hne => (h.block i (by simp; omega) hne).trans (Below.heap_alloc a o i hi)⟩
/-- a row of four, by its wheels -/
def rowF (f : Nat → Int) : Array Value := #[I (f 0), I (f 1), I (f 2), I (f 3)]
theorem rowF_at (f : Nat → Int) (k : Nat) (h : k < 4) : (rowF f)[k]? = some (I (f k)) := by
  match k, h with
  | 0, _ => rfl
  | 1, _ => rfl
  | 2, _ => rfl
  | 3, _ => rfl
theorem rowF_set (f : Nat → Int) (k : Nat) (h : k < 4) (v : Int) : (rowF f).setIfInBounds k (I v) = rowF (fun j => if j = k then v else f j) := by
  match k, h with
  | 0, _ => rfl
  | 1, _ => rfl
  | 2, _ => rfl
  | 3, _ => rfl
theorem rowF_congr (f g : Nat → Int) (h : ∀ j, j < 4 → f j = g j) : rowF f = rowF g := by
  simp only [rowF]; rw [h 0 (by decide), h 1 (by decide), h 2 (by decide), h 3 (by decide)]
theorem nth_beyond {c : List Int} {j : Nat} (h : c.length ≤ j) : nth c j = 0 := by simp [nth, List.getElem?_eq_none h]
/-- the digits of the next number -/
theorem adv_next {s : Nat} (hs : 1 < s) (w n i : Nat) (hn : n < s ^ w) (hi : i < w) (h1 : nth (dig s w n) i + 1 < s) (h2 : ∀ j, i < j → j < w → nth (dig s w n) j + 1 = s) :
    n + 1 < s ^ w ∧ ∀ j, nth (dig s w (n + 1)) j = if j = i then nth (dig s w n) i + 1 else if i < j then 0 else nth (dig s w n) j := by
  have hlt : n + 1 < s ^ w := by
    rcases Nat.lt_or_ge (n + 1) (s ^ w) with h | h
    · exact h
    · have e : n + 1 = s ^ w := by omega
      have := dig_last hs w n e i hi
      simp only [nth] at h1
      omega
  refine ⟨hlt, ?_⟩
  obtain ⟨k, hk, a1, a2, a3, a4⟩ := dig_succ hs w n hlt
  have hki : k = i := by
    rcases Nat.lt_trichotomy k i with h | h | h
    · have := (a4 i h hi).1
      simp only [nth] at h1
      omega
    · exact h
    · have := h2 k h hk
      simp only [nth] at this
      omega
  subst hki
  intro j
  by_cases e1 : j = k
  · subst e1; rw [if_pos rfl]; exact a2
  · rw [if_neg e1]
    by_cases e2 : k < j
    · rw [if_pos e2]
      by_cases e3 : j < w
      · exact (a4 j e2 e3).2
      · exact nth_beyond (by rw [dig_length]; omega)
    · rw [if_neg e2]; exact a1 j (by omega)
theorem adv_last {s : Nat} (hs : 1 < s) (w n : Nat) (hn : n < s ^ w) (h2 : ∀ j, j < w → nth (dig s w n) j + 1 = s) : n + 1 = s ^ w := by
  rcases Nat.lt_or_ge (n + 1) (s ^ w) with h | h
  · obtain ⟨k, hk, _, _, a3, _⟩ := dig_succ hs w n h
    have := h2 k hk
    simp only [nth] at this
    omega
  · omega

set_option maxRecDepth 100000 in
set_option maxHeartbeats 2000000 in
theorem advance_any (W S : Nat) (hW : 1 ≤ W) (hW4 : W ≤ 4) (hS : 2 ≤ S) (hS10 : S ≤ 10) (n : Nat) (hn : n < S ^ W) (g : Nat) (w : World) (hrow : w.heap[g]? = some (.cells (rowF (nth (dig S W n))) 87 (0, 0))) :
    Calls Tryd.prog 111 #[lockV W S, .pointer (some ⟨g, 0, none⟩)] w fun e w' => w.grownBy w' (some g) ∧
      ((n + 1 < S ^ W ∧ e = .returned (.bool true) ∧ w'.heap[g]? = some (.cells (rowF (nth (dig S W (n + 1)))) 87 (0, 0))) ∨ (n + 1 = S ^ W ∧ e = .returned (.bool false))) := by
  have hg := row_lt hrow
  have hgW : g ≠ w.heap.size := by omega
  have h0 : (w.alloc (.cells #[.int .i64 W, .int .i64 S] 78)).heap[g]? = some (.cells (rowF (nth (dig S W n))) 87 (0, 0)) := (Below.heap_alloc _ _ _ hg).trans hrow
  have H0 := Lib.hid h0
  clear h0 hrow
  have W1 : wrap64 ((W : Int) - 1) = (W : Int) - 1 := IntWalk.wrap64_in _ ⟨by omega, by omega⟩
  have HN := Lib.hid hn
  clear hn
  go_enter Tryd.func111, Tryd.ntmps111
  go_wp2
  go_loopw [5] (fun i wr => ∃ k : Nat, k ≤ W ∧ i = .int .i64 ((k : Int) - 1) ∧ wr.heap[g]? = some (.cells (rowF (fun j => if k ≤ j then 0 else nth (dig S W n) j)) 87 (0, 0)) ∧ Hid (∀ j, k ≤ j → j < W → nth (dig S W n) j + 1 = S) ∧ (w.alloc (.cells #[.int .i64 W, .int .i64 S] 78)).grownBy wr (some g)) (fun i _ => (intOf i + 1).toNat)
  case atStart =>
    refine ⟨W, Nat.le_refl _, rfl, ?_, Lib.hid (fun j h1 h2 => by omega), World.grownBy.refl _ _⟩
    rw [rowF_congr _ (nth (dig S W n)) (fun j _ => ?_)]
    · exact H0.out
    · split
      · exact (nth_beyond (by rw [dig_length]; omega)).symm
      · rfl
  case round =>
    obtain ⟨k, hk, rfl, hr, HA, hG⟩ := hrel
    have c0 : wr.cell? ⟨w.heap.size, 0, none⟩ = some (I W) := (World.cell?_of_block (w := w.alloc _) (hG.block w.heap.size (by simp) (by intro e; injection e with e; omega))).trans (alloc_cell _ _ _ 0)
    have c1 : wr.cell? ⟨w.heap.size, 1, none⟩ = some (I S) := (World.cell?_of_block (w := w.alloc _) (hG.block w.heap.size (by simp) (by intro e; injection e with e; omega))).trans (alloc_cell _ _ _ 1)
    by_cases hlt : 0 < k
    · obtain ⟨i, rfl⟩ : ∃ i, k = i + 1 := ⟨k - 1, by omega⟩
      have hi0 : (0 : Int) ≤ (i : Int) := by omega
      have hi4 : (i : Int) < 4 := by omega
      have ei : (((i + 1 : Nat) : Int) - 1) = (i : Int) := by omega
      rw [ei]
      have hcell : wr.cell? ⟨g, i, none⟩ = some (I (nth (dig S W n) i)) := (cell_of_row wr g i _ _ _ hr).trans ((rowF_at _ i (by omega)).trans (by rw [if_neg (by omega)]))
      have hfr : wr.frozen? ⟨g, i, none⟩ = false := frozen_of_row hr i
      have hdb : 0 ≤ nth (dig S W n) i ∧ nth (dig S W n) i < S := by
        have := dig_bounds (s := S) (by omega) W n (nth (dig S W n) i) (by rw [nth_lt (by rw [dig_length]; omega)]; exact List.getElem_mem _)
        exact this
      have hd1 := hdb.1
      have hd2 := hdb.2
      have HR := Lib.hid hr
      clear hr hdb ei hlt
      generalize hd : nth (dig S W n) i = d at *
      have HD := Lib.hid hd
      clear hd
      have hset : ∀ v : Int, (rowF fun j => if i + 1 ≤ j then 0 else nth (dig S W n) j).setIfInBounds i (I v) = rowF (fun j => if j = i then v else if i + 1 ≤ j then 0 else nth (dig S W n) j) := fun v => rowF_set _ i (by omega) v
      have HS := Lib.hid hset
      clear hset
      go_wp2
      go_region
      go_wp2_with fail
      obtain ⟨w2, hw2⟩ : ∃ w2, w2 = (wr.setCell ⟨g, i, none⟩ (.int .i64 (d + 1))).drew := ⟨_, rfl⟩
      rw [← hw2]
      have hr2 : w2.heap[g]? = some (.cells (rowF (fun j => if j = i then d + 1 else if i + 1 ≤ j then 0 else nth (dig S W n) j)) 87 (0, 0)) := by
        rw [hw2, ← HS.out]; exact row_set HR.out i _
      have hG2 : (w.alloc (.cells #[.int .i64 W, .int .i64 S] 78)).grownBy w2 (some g) := by
        rw [hw2]; exact only_drew (only_setCell hG (.inl rfl) _)
      clear hw2 hcell hfr c0 c1 HR hG
      have c0 : w2.cell? ⟨w.heap.size, 0, none⟩ = some (I W) := (World.cell?_of_block (w := w.alloc _) (hG2.block w.heap.size (by simp) (by intro e; injection e with e; omega))).trans (alloc_cell _ _ _ 0)
      have c1 : w2.cell? ⟨w.heap.size, 1, none⟩ = some (I S) := (World.cell?_of_block (w := w.alloc _) (hG2.block w.heap.size (by simp) (by intro e; injection e with e; omega))).trans (alloc_cell _ _ _ 1)
      have hcell : w2.cell? ⟨g, i, none⟩ = some (I (d + 1)) := (cell_of_row w2 g i _ _ _ hr2).trans ((rowF_at _ i (by omega)).trans (by rw [if_pos rfl]))
      have hfr : w2.frozen? ⟨g, i, none⟩ = false := frozen_of_row hr2 i
      have HR := Lib.hid hr2
      clear hr2
      by_cases hc : d + 1 < S
      · go_quiet (fail)
        go_wp2
        go_ret
        have hnx := adv_next (by omega) W n i HN.out (by omega) (by rw [HD.out]; exact hc) (fun j h1 h2 => HA.out j (by omega) h2)
        refine ⟨only_drewN (only_alloc_left hG2) _, .inl ⟨hnx.1, rfl, ?_⟩⟩
        show w2.heap[g]? = _
        rw [HR.out, rowF_congr _ (nth (dig S W (n + 1))) (fun j _ => ?_)]
        rw [hnx.2 j, HD.out]
        by_cases e1 : j = i
        · rw [if_pos e1, if_pos e1]
        · rw [if_neg e1, if_neg e1]
          by_cases e2 : i < j
          · rw [if_pos e2, if_pos (by omega)]
          · rw [if_neg e2, if_neg (by omega)]
      · go_quiet (fail)
        go_wp2
        go_roundw
        case rel =>
          refine ⟨i, by omega, rfl, ?_, Lib.hid (fun j h1 h2 => ?_), only_setCell (only_drewN hG2 _) (.inl rfl) _⟩
          · have e := row_set (w := w2.drewN nq) HR.out i (.int .i64 0)
            rw [rowF_set _ i (by omega)] at e
            rw [e, rowF_congr _ (fun j => if i ≤ j then 0 else nth (dig S W n) j) (fun j _ => ?_)]
            by_cases e1 : j = i
            · rw [if_pos e1, if_pos (by omega)]
            · rw [if_neg e1, if_neg e1]
              by_cases e2 : i + 1 ≤ j
              · rw [if_pos e2, if_pos (by omega)]
              · rw [if_neg e2, if_neg (by omega)]
          · rcases Nat.eq_or_lt_of_le h1 with h | h
            · subst h; rw [HD.out]; omega
            · exact HA.out j h h2
        case measure => simp [intOf]
    · obtain rfl : k = 0 := by omega
      go_wp2
      go_ret
      have hl := adv_last (by omega) W n HN.out (fun j h => HA.out j (by omega) h)
      exact ⟨only_alloc_left hG, .inr ⟨hl, rfl⟩⟩
end Go.Proofs.YthegmomjfbcabaaDoor
/-
  A LOOP OVER A FUNCTION WHOSE VALUE MAY BEAR A RECEIVER (a method value) OR CAPTURED VARIABLES: what an iterator promises, what the body of the loop promises, and the law of the loop.
-/
namespace Go.Proofs.YthegmomjfbcabaaDoor
open Go.RowKit
/-- whatever block from B on stood in W stands in W' as it was -/
structure KeepFrom (B : Nat) (W W' : World) : Prop where
  size : W.heap.size ≤ W'.heap.size
  same : ∀ k, B ≤ k → k < W.heap.size → W'.heap[k]? = W.heap[k]?
theorem KeepFrom.refl (B : Nat) (W : World) : KeepFrom B W W := ⟨Nat.le_refl _, fun _ _ _ => rfl⟩
theorem KeepFrom.trans {B : Nat} {X Y Z : World} (h : KeepFrom B X Y) (k : KeepFrom B Y Z) : KeepFrom B X Z :=
  ⟨Nat.le_trans h.size k.size, fun i h1 h2 => (k.same i h1 (Nat.lt_of_lt_of_le h2 h.size)).trans (h.same i h1 h2)⟩
theorem KeepFrom.more {B B' : Nat} {X Y : World} (h : KeepFrom B X Y) (hB : B ≤ B') : KeepFrom B' X Y := ⟨h.size, fun i h1 h2 => h.same i (Nat.le_trans hB h1) h2⟩
theorem KeepFrom.of_below {B n : Nat} {X Y : World} (h : Below n X Y) (hn : X.heap.size ≤ n) : KeepFrom B X Y := ⟨h.size, fun i _ h2 => h.block i (Nat.lt_of_lt_of_le h2 hn)⟩
theorem KeepFrom.alloc (B : Nat) (X : World) (o : Obj) : KeepFrom B X (X.alloc o) := .of_below ((Below.refl _ _).alloc (Nat.le_refl _) o) (Nat.le_refl _)
theorem KeepFrom.setCell {B : Nat} (X : World) {p : Addr} (hp : p.block < B) (v : Value) : KeepFrom B X (X.setCell p v) :=
  ⟨by simp [World.setCell], fun i h1 _ => Below.heap_setCell _ _ _ _ (by omega)⟩
theorem below_putObj {B : Nat} (W : World) {l : Nat} (o : Obj) (hl : B ≤ l) : Below B W (W.putObj l o) :=
  ⟨rfl, rfl, rfl, by simp, fun k hk => World.putObj_heap_other (by omega)⟩
variable {F : Fence} {n : Nat} {P : Program}
/-- what an iterator promises: it hands out xs, one after the other, till a round says no -/
def Iter (F : Fence) (n : Nat) (P : Program) (gf : Nat) (fa lb : Array Value) (enc : List Int → Value) (xs : List (List Int)) (G : World → Prop) (W : World) : Prop :=
  ∀ (l : Nat) (J Jx : Nat → World → Prop), (∀ k A B, J k A → Below W.heap.size A B → J k B) → (∀ k A B, Jx k A → Below W.heap.size A B → Jx k B) →
    (∀ k A, J k A → G A) → (∀ (k : Nat) (hk : k < xs.length) (W1 : World), J k W1 → YieldAt F (n - 1) P l #[enc xs[k]] W1 fun e W2 =>
      (e = .returned (.bool true) ∧ J (k + 1) W2 ∧ KeepFrom W.heap.size W1 W2) ∨ (e = .returned (.bool false) ∧ Jx (k + 1) W2 ∧ KeepFrom W.heap.size W1 W2)) →
    J 0 W →
    CallsIn F n P gf (fa ++ #[.func (.yield l) #[] #[]] ++ lb) W fun e W' => (∃ v, e = .returned v) ∧ (J xs.length W' ∨ ∃ k, 0 < k ∧ k ≤ xs.length ∧ Jx k W')
/-- how the body of a round may be left -/
def roundEnd (B : Nat) (I : Nat → World → Prop) (Ix : Code → Nat → World → Prop) (k : Nat) (W : World) : Exit → Act → World → Prop
  | .normal, _, W' => KeepFrom B W W' ∧ I k W'
  | .ret, _, W' => KeepFrom B W W' ∧ Ix .ret k W'
  | .exit id, _, W' => KeepFrom B W W' ∧ Ix (.exit id) k W'
  | .goto t, _, W' => KeepFrom B W W' ∧ Ix (.goto t) k W'
  | .panic _, _, _ => False
  | .outgrown, _, _ => False
/-- the law of the loop -/
theorem wpIn_loop {g : Operand} {ps : Array Tmp} {assign body : Code} {Q : Exit → Act → World → Prop} {a : Act} {w : World}
    (hro : F.round = none) (h1 : 1 ≤ n) {gf : Nat} {fa lb : Array Value} (hg : a.eval g = .func (.func gf) fa lb) (hFg : F.fn gf) (eg : Enters P gf)
    {enc : List Int → Value} {xs : List (List Int)} {G : World → Prop} (hseq : ∀ W, Below w.heap.size w W → G W → Iter F (n - 1) P gf fa lb enc xs G W) (hps : ps.size = 1)
    (I : Nat → World → Prop) (Ix : Code → Nat → World → Prop) (hI : ∀ k A B, I k A → Below w.heap.size A B → I k B) (hIx : ∀ c k A B, Ix c k A → Below w.heap.size A B → Ix c k B) (hG : ∀ k A, I k A → G A) (h0 : I 0 w)
    (hround : ∀ (l k : Nat) (hk : k < xs.length) (W : World), w.heap.size ≤ l → l < W.heap.size → I k W →
      assign.wpIn (F.inRound l) (n - 1 - 1) P (Exit.then (fun a₁ W₁ => Below W.heap.size W W₁ ∧ ∀ o : Obj, body.wpIn (F.inRound l) (n - 1 - 1) P (roundEnd w.heap.size I Ix (k + 1) (W₁.putObj l o)) a₁ (W₁.putObj l o)) (fun _ _ _ => False))
        { tmps := (ps.zip #[enc xs[k]]).foldl (fun t (p, v) => t.setIfInBounds p v) a.tmps, defers := [] } W)
    (hdone : ∀ (W : World), I xs.length W → W.heap[w.heap.size]? = some (.deferred (some [])) → Q .normal { a with defers := { target := .collected w.heap.size, args := #[] } :: a.defers } W)
    (hstop : ∀ (c : Code) (k : Nat) (W : World), 0 < k → k ≤ xs.length → Ix c k W → W.heap[w.heap.size]? = some (.deferred (some [])) → c.wpIn F n P Q { a with defers := { target := .collected w.heap.size, args := #[] } :: a.defers } W) :
    (Code.rangeFunc g ps assign body).wpIn F n P Q a w := by
  refine wpIn_rangeFunc fun fn hfn => ?_
  rw [hro]
  obtain ⟨R, hR⟩ : ∃ R : LoopState → Option Code → Loop, R = fun st pe => { state := st, pending := pe, fn, tmps := a.tmps, params := ps, assign, body, defers := w.heap.size } := ⟨_, rfl⟩
  obtain ⟨V, hV⟩ : ∃ V, (w.alloc (.deferred (some []))).alloc (.loop (R .ready none)) = V := ⟨_, rfl⟩
  have hVs : V.heap.size = w.heap.size + 2 := by rw [← hV]; simp
  have hwV : Below w.heap.size w V := by rw [← hV]; exact ((Below.refl _ w).alloc (Nat.le_refl _) _).alloc (by simp) _
  have hVl : V.heap[w.heap.size + 1]? = some (.loop (R .ready none)) := by rw [← hV]; exact alloc_obj _ _ _ (by simp)
  have hVd : V.heap[w.heap.size]? = some (.deferred (some [])) := by rw [← hV]; exact (Below.heap_alloc _ _ _ (by simp)).trans (alloc_obj _ _ _ rfl)
  refine ⟨w.heap.size + 1, [{ target := .collected w.heap.size, args := #[] }], V, { target := .fn (.func gf) lb, args := fa ++ #[.func (.yield (w.heap.size + 1)) #[] #[]] }, V, gf,
    fa ++ #[.func (.yield (w.heap.size + 1)) #[] #[]] ++ lb, V, ?_, ?_, ?_, ?_, fun _ => h1, ?_⟩
  · rw [← hV, hR]; exact run_enterLoop_outer _ _ _ _ _
  · simp only [resolve, hg]
    simp [go_sem]
  · intro f' hf'; simp [Target.leads] at hf'; subst hf'; exact hFg
  · have he : (callFunc gf (fa ++ #[.func (.yield (w.heap.size + 1)) #[] #[]] ++ lb)).run P V = .ok (.enter gf (fa ++ #[.func (.yield (w.heap.size + 1)) #[] #[]] ++ lb)) V := eg _ _
    simp only [invoke]
    exact he
  refine (hseq V hwV (hG 0 _ (hI 0 w V h0 hwV)) (w.heap.size + 1)
    (fun k W => I k W ∧ V.heap.size ≤ W.heap.size ∧ W.heap[w.heap.size + 1]? = some (.loop (R .ready none)) ∧ W.heap[w.heap.size]? = some (.deferred (some [])))
    (fun k W => ∃ c, Ix c k W ∧ W.heap[w.heap.size + 1]? = some (.loop (R .done (some c))) ∧ W.heap[w.heap.size]? = some (.deferred (some [])))
    (fun k A B ⟨j1, j2, j3, j4⟩ hb => ⟨hI k A B j1 (hb.mono (by omega)), Nat.le_trans j2 hb.size, (hb.block _ (by omega)).trans j3, (hb.block _ (by omega)).trans j4⟩)
    (fun k A B ⟨c, j1, j3, j4⟩ hb => ⟨c, hIx c k A B j1 (hb.mono (by omega)), (hb.block _ (by omega)).trans j3, (hb.block _ (by omega)).trans j4⟩)
    (fun k A ⟨j1, _⟩ => hG k A j1) ?_ ⟨hI 0 w V h0 hwV, Nat.le_refl _, hVl, hVd⟩).mono ?_
  · rintro k hk W ⟨i1, i2, i3, i4⟩
    have hy := run_yield (P := P) (args := #[enc xs[k]]) i3 (by rw [hR]; simp [hps])
    rw [hR] at hy
    refine ⟨fn, _, assign, body, hy, roundIn_of_wpIn hfn (wpIn_mono (hround (w.heap.size + 1) k hk W (by omega) (by omega) i1) ?_)⟩
    intro e a₁ W₁ hx
    cases e with
    | normal =>
      obtain ⟨hb1, hbody⟩ := hx
      have l1 : W₁.heap[w.heap.size + 1]? = some (.loop (R .ready none)) := (hb1.block _ (by omega)).trans i3
      have d1 : W₁.heap[w.heap.size]? = some (.deferred (some [])) := (hb1.block _ (by omega)).trans i4
      refine ⟨_, run_beginRound l1 (by rw [hR]), wpIn_mono (hbody _) ?_⟩
      have l2 : (W₁.putObj (w.heap.size + 1) (.loop { R .ready none with state := .busy })).heap[w.heap.size + 1]? = some (.loop { R .ready none with state := .busy }) := World.putObj_heap_same (row_lt' l1)
      have d2 : (W₁.putObj (w.heap.size + 1) (.loop { R .ready none with state := .busy })).heap[w.heap.size]? = some (.deferred (some [])) := (World.putObj_heap_other (by omega)).trans d1
      have s1 := hb1.size
      have fin : ∀ (jump : Option Code) (W3 : World), KeepFrom w.heap.size (W₁.putObj (w.heap.size + 1) (.loop { R .ready none with state := .busy })) W3 →
          (Instr.endRound (w.heap.size + 1) jump).run P W3 = .ok (.bool jump.isNone) (W3.putObj (w.heap.size + 1) (.loop (R (if jump.isNone then .ready else .done) jump))) ∧
          (W3.putObj (w.heap.size + 1) (.loop (R (if jump.isNone then .ready else .done) jump))).heap[w.heap.size + 1]? = some (.loop (R (if jump.isNone then .ready else .done) jump)) ∧
          (W3.putObj (w.heap.size + 1) (.loop (R (if jump.isNone then .ready else .done) jump))).heap[w.heap.size]? = some (.deferred (some [])) ∧
          KeepFrom V.heap.size W (W3.putObj (w.heap.size + 1) (.loop (R (if jump.isNone then .ready else .done) jump))) := fun jump W3 hk3 => by
        have hk3s := hk3.size
        simp only [World.putObj_size] at hk3s
        have l3 := (hk3.same (w.heap.size + 1) (by omega) (by simp; omega)).trans l2
        have d3 := (hk3.same w.heap.size (by omega) (by simp; omega)).trans d2
        have he := run_endRound (P := P) jump l3
        rw [hR] at he ⊢
        refine ⟨he, World.putObj_heap_same (row_lt' l3), (World.putObj_heap_other (by omega)).trans d3, ⟨by simp; omega, fun i h1 h2 => ?_⟩⟩
        rw [World.putObj_heap_other (by omega), hk3.same i (by omega) (by simp; omega), World.putObj_heap_other (by omega)]
        exact hb1.block i h2
      intro e2 a3 W3 hp
      cases e2 with
      | normal =>
        obtain ⟨k3, i3'⟩ := hp
        obtain ⟨f1, f2, f3, f4⟩ := fin none W3 k3
        exact ⟨_, _, f1, .inl ⟨rfl, ⟨hI _ _ _ i3' (below_putObj _ _ (by omega)), by have := f4.size; omega, f2, f3⟩, f4⟩⟩
      | ret =>
        obtain ⟨k3, i3'⟩ := hp
        obtain ⟨f1, f2, f3, f4⟩ := fin (some .ret) W3 k3
        exact ⟨_, _, f1, .inr ⟨rfl, ⟨.ret, hIx _ _ _ _ i3' (below_putObj _ _ (by omega)), f2, f3⟩, f4⟩⟩
      | exit id =>
        obtain ⟨k3, i3'⟩ := hp
        obtain ⟨f1, f2, f3, f4⟩ := fin (some (.exit id)) W3 k3
        exact ⟨_, _, f1, .inr ⟨rfl, ⟨.exit id, hIx _ _ _ _ i3' (below_putObj _ _ (by omega)), f2, f3⟩, f4⟩⟩
      | goto t =>
        obtain ⟨k3, i3'⟩ := hp
        obtain ⟨f1, f2, f3, f4⟩ := fin (some (.goto t)) W3 k3
        exact ⟨_, _, f1, .inr ⟨rfl, ⟨.goto t, hIx _ _ _ _ i3' (below_putObj _ _ (by omega)), f2, f3⟩, f4⟩⟩
      | panic ch => exact hp.elim
      | outgrown => exact hp.elim
    | exit id => exact hx.elim
    | goto t => exact hx.elim
    | ret => exact hx.elim
    | panic chain => exact hx.elim
    | outgrown => exact hx.elim
  · rintro e W2 ⟨⟨v, rfl⟩, h⟩
    rcases h with ⟨i1, _, i3, i4⟩ | ⟨k, k0, k1, c, i1, i3, i4⟩
    · refine ⟨none, _, (by have := run_endLoop (P := P) i3 (by rw [hR]; simp); rw [hR] at this; exact this), ?_⟩
      exact hdone _ (hI _ _ _ i1 (below_putObj _ _ (by omega))) ((World.putObj_heap_other (by omega)).trans i4)
    · refine ⟨some c, _, (by have := run_endLoop (P := P) i3 (by rw [hR]; simp); rw [hR] at this; exact this), ?_⟩
      exact hstop c k _ k0 k1 (hIx _ _ _ _ i1 (below_putObj _ _ (by omega))) ((World.putObj_heap_other (by omega)).trans i4)
end Go.Proofs.YthegmomjfbcabaaDoor
