/-
  CONTRACT: puzzles.Hang. (Written by gen/hang_make.py.)
-/
import Derived.Test.YtglkjiimmlobbaaPzHngI
import Derived.Test.YtglkjiimmlobbaaPzChp
import Derived.Sort.CutIn
import Derived.Deep.RegionHeld3
namespace Go.Proofs.Ytglkjiimmlobbaa
open Go.RowKit Go.Shelf
attribute [local go_sem] Oper.semAt_some

theorem low_grown {w X Y : World} {g : Nat} (h : w.grownBy X (some g)) (hb : Below w.heap.size X Y) : w.grownBy Y (some g) :=
  ⟨hb.os.trans h.os, hb.tape.trans h.tape, hb.output.trans h.output, Nat.le_trans h.size hb.size, fun k hk hn => (hb.block k hk).trans (h.block k hk hn)⟩
theorem below_grown {w X : World} {g : Nat} (h : w.grownBy X (some g)) (hg : g ≤ w.heap.size) : Below g w X :=
  ⟨h.os, h.tape, h.output, h.size, fun k hk => h.block k (by omega) (fun e => by injection e with e; omega)⟩
theorem Lists.keepD {X Y : World} {lo hi : Nat} {v : Value} {xss : List (List Int)} (h : Lists X hi v xss) (hb : BelowD lo hi X Y) : Lists Y hi v xss := by
  obtain ⟨vs, h1, h2⟩ := h
  refine ⟨vs, own_keepD h1 hb, fun j hj => ?_⟩
  obtain ⟨u, e, h3⟩ := h2 j hj
  exact ⟨u, e, own_keepD h3 hb⟩

/-- behind the append: the list is one longer -/
def RdR (w2 Y : World) (hi LB : Nat) (v : Value) (xss : List (List Int)) (u : Value) (w' : World) : Prop :=
  Lists w' hi u xss ∧ w'.heap[LB]? = some (.cells #[v] 57 (0, 0)) ∧ w2.grownBy w' (some LB) ∧ KeepMid w2.heap.size hi Y w' ∧ Y.heap.size ≤ w'.heap.size
/-- the phases of 'list = append(list, slices.Clone(hanging))' -/
def RdP (w2 Y : World) (hi LB : Nat) (v : Value) (x : List Int) (xss : List (List Int)) : Nat → Value → Value → Value → World → Prop
  | 0, _, _, _, w' => Below Y.heap.size Y w'
  | 1, c, _, _, w' => Below Y.heap.size Y w' ∧ w'.ownsRow hi 3 1 c x.length (x.map I)
  | 2, c, d, _, w' => ∃ wb, Below Y.heap.size Y wb ∧ wb.ownsRow hi 3 1 c x.length (x.map I) ∧ w' = wb.alloc (.cells #[c] 29) ∧ d = .slice (some ⟨wb.heap.size, 0, none⟩) 1 1
  | 3, _, _, u, w' => RdR w2 Y hi LB v (xss ++ [x]) u w'
  | _, _, _, u, w' => ∃ wr, RdR w2 Y hi LB v (xss ++ [x]) u wr ∧ w' = wr.setCell ⟨LB, 0, none⟩ u
theorem RdP_row {w2 Y w' : World} {hi LB ph : Nat} {v c d u : Value} {x : List Int} {xss : List (List Int)} (h : RdP w2 Y hi LB v x xss ph c d u w') (hp : ph < 3) (hr : Y.heap[LB]? = some (.cells #[v] 57 (0, 0))) : w'.heap[LB]? = some (.cells #[v] 57 (0, 0)) := by
  have hlt := row_lt' hr
  match ph, hp, h with
  | 0, _, h => exact (Below.block h _ hlt).trans hr
  | 1, _, h => exact (h.1.block _ hlt).trans hr
  | 2, _, ⟨wb, h1, _, e, _⟩ => rw [e]; exact (Below.heap_alloc _ _ _ (by have := h1.size; omega)).trans ((h1.block _ hlt).trans hr)
theorem rd_after {w2 Y wb w' : World} {hi LB : Nat} {v c v' : Value} {x : List Int} {xss : List (List Int)} {vs : List Value} (hY : w2.grownBy Y (some LB)) (hLB : Y.heap[LB]? = some (.cells #[v] 57 (0, 0))) (hlb : LB < w2.heap.size) (hlo : w2.heap.size ≤ hi) (hhi : hi ≤ Y.heap.size)
    (hb : Below Y.heap.size Y wb) (hu : wb.ownsRow hi 3 1 c x.length (x.map I)) (hown : wb.ownsRow hi 29 1 v xss.length vs) (hin : ∀ j (h : j < xss.length), ∃ u, vs[j]? = some u ∧ wb.ownsRow hi 3 1 u xss[j].length (xss[j].map I))
    (hown' : w'.ownsRow hi 29 1 v' (xss.length + 1) (vs ++ [c])) (hgrow : (wb.alloc (.cells #[c] 29)).grownBy w' v.ownBlock) : RdR w2 Y hi LB v (xss ++ [x]) v' w' := by
  have hrow := hown.lt
  have hsz := hb.size
  have hs' := hgrow.size
  simp at hs'
  have hYs := hY.size
  have hkeep : ∀ b, b < hi → w'.heap[b]? = Y.heap[b]? := fun b hbh => by
    refine (hgrow.block b (by simp; omega) (fun e => ?_)).trans ((Below.heap_alloc _ _ _ (by omega)).trans (hb.block b (by omega)))
    have := (hrow b e.symm).1
    omega
  refine ⟨snoc_lists hown hin hu (World.grownBy_alloc _ _ _) hown' hgrow, (hkeep LB (by omega)).trans hLB, ⟨hgrow.os.trans (hb.os.trans hY.os), hgrow.tape.trans (hb.tape.trans hY.tape), hgrow.output.trans (hb.output.trans hY.output), by omega, fun k hk hn => (hkeep k (by omega)).trans (hY.block k hk hn)⟩,
    ⟨by omega, fun b _ h2 _ => hkeep b h2⟩, by omega⟩
theorem opwp_res {P : Program} {Q : Exit → Act → World → Prop} {o : Oper} {a : Act} {w : World} {K : Act → World → Prop} {r : Result Next} (hv : (execOp a.eval o).run P w = r) (h : o.upon P a K Q r) : o.wp P a w K Q := by
  unfold Oper.wp
  rw [hv]
  exact h
theorem opwp_val {P : Program} {Q : Exit → Act → World → Prop} {o : Oper} {a : Act} {w : World} {K : Act → World → Prop} (v : Value) (hv : (execOp a.eval o).run P w = .ok (.value v) w) (h : K (a.put o.dst v) w) : o.wp P a w K Q := opwp_res hv h


/-- what Hang answers -/
def hgE (n most : Int) (ps : List Por) : Int := fstErr [porE n ps, if wi most 1 64 then 0 else 1]
def hgL (n most : Int) (ps : List Por) : List (List Int) := if hgE n most ps = 0 then (hngL n.toNat ps).take most.toNat else []

theorem fstTwo (a b : Int) : fstErr [a, b] = if a = 0 then b else a := by
  simp only [fstErr]
  by_cases h : a = 0
  · rw [if_pos h, if_pos h]
    by_cases h2 : b = 0
    · rw [if_pos h2, h2]
    · rw [if_neg h2]
  · rw [if_neg h, if_neg h]
theorem hgE_ok {n most : Int} {ps : List Por} (h : hgE n most ps = 0) : (1 ≤ n ∧ n ≤ 6) ∧ 1 ≤ most ∧ most ≤ 64 := by
  rw [hgE, fstTwo] at h
  by_cases h1 : porE n ps = 0
  · rw [if_pos h1] at h
    cases h2 : wi most 1 64
    · rw [h2] at h; simp at h
    · exact ⟨(porE_ok h1).1, by simpa [wi] using h2⟩
  · rw [if_neg h1] at h; exact absurd h h1

set_option maxRecDepth 100000 in
set_option maxHeartbeats 4000000 in
theorem Hang_no (n most : Int) (A : Option Addr) (c : Nat) (ps : List Por) (w : World) (hp : PorR w w.heap.size A ps) (hpl : ps.length ≤ maxLen) (HNE : Hid (hgE n most ps ≠ 0)) :
    Calls Try.prog 46 #[I n, .slice A ps.length c, I most] w fun e w' => e = .returned (.tuple #[.slice none 0 0, I (hgE n most ps)]) ∧ Below w.heap.size w w' := by
  obtain ⟨E1, hE1⟩ : ∃ E1, E1 = porE n ps := ⟨_, rfl⟩
  obtain ⟨b2, hb2e⟩ : ∃ b2, b2 = wi most 1 64 := ⟨_, rfl⟩
  obtain ⟨E2, hE2⟩ : ∃ E2 : Int, E2 = if b2 then 0 else 1 := ⟨_, rfl⟩
  obtain ⟨E, hE⟩ : ∃ E, E = fstErr [E1, E2] := ⟨_, rfl⟩
  have C1 : ∀ V, PorR V V.heap.size A ps → Calls Try.prog 113 #[galV n A ps.length c] V fun e w' => e = .returned (I E1) ∧ Below V.heap.size V w' := fun V h => by rw [hE1]; exact gcheck_any n A c ps V h hpl
  have C2 : ∀ V, Calls Try.prog 65 #[I most, I 1, I 64] V fun e w' => e = .returned (.bool b2) ∧ V = w' := fun V => by rw [hb2e]; exact within_any _ _ _ _
  have C3 : ∀ V, Calls Try.prog 64 #[.bool b2, I 1] V fun e w' => e = .returned (I E2) ∧ w' = V := fun V => by rw [hE2]; exact unless_any b2 1 V
  have C4 : ∀ (V : World) (B : Option Addr) (k : Nat), IntsR V V.heap.size B [E1, E2] → Calls Try.prog 62 #[.slice B 2 k] V fun e w' => e = .returned (I E) ∧ w' = V := fun V B k h => by
    rw [hE]; exact (first_any B k [E1, E2] V h (by simp [maxLen])).mono fun e w' ⟨p, q⟩ => ⟨p, q.symm⟩
  have HEE := Lib.hid (show E = hgE n most ps by rw [hE, hE1, hE2, hb2e, hgE])
  clear hE1 hb2e hE2 hE
  go_enter Try.func46, Try.ntmps46
  go_upto_region 2 with fail
  obtain ⟨wa, ha, sa, ya, ba⟩ := one_box w (.cells #[I most] 3)
  obtain ⟨w1, hw1, s1, y1, hb1⟩ := one_box wa (.cells #[I n, .slice A ps.length c] 127)
  rw [sa] at y1
  rw [ha] at hw1
  rw [← hw1]
  have ym := (hb1.block _ (by omega)).trans ya
  have hB1 : Below w.heap.size w w1 := ba.trans (hb1.mono (by omega))
  have m0 : w1.cell? ⟨w.heap.size, 0, none⟩ = some (I most) := cell_of_row w1 _ 0 _ _ _ ym
  have g0 : w1.cell? ⟨w.heap.size + 1, 0, none⟩ = some (I n) := cell_of_row w1 _ 0 _ _ _ y1
  have g1 : w1.cell? ⟨w.heap.size + 1, 1, none⟩ = some (.slice A ps.length c) := cell_of_row w1 _ 1 _ _ _ y1
  have hp1 := por_call hB1 hp
  have t0 : w.heap.size < w1.heap.size := by omega
  have t1 : w.heap.size + 1 < w1.heap.size := by omega
  have Y1 := Lib.hid ym
  have Y2 := Lib.hid y1
  clear hw1 ha ya ba sa s1 y1 ym hb1 hp wa
  go_cut [9] from 9 to 21 (fun s9 wx => s9 = I E ∧ KeptS w1 wx)
  case first =>
    go_region_held3 (fun w' => Below w1.heap.size w1 w' ∧ (∀ b o, b < w1.heap.size → w'.cell? ⟨b, o, none⟩ = w1.cell? ⟨b, o, none⟩))
      (first | exact keptS_drew _ | exact keptS_call (by assumption) hb | exact keptS_alloc (by assumption) _ | assumption)
      (first
        | (go_at_call 113; go_must (refine (C1 _ ?_).mono ?_); go_must (exact por_call (And.left (by assumption : KeptS w1 _)) hp1); rintro e w' ⟨rfl, hb⟩)
        | (go_at_call 65; refine (C2 _).mono ?_; rintro e w' ⟨rfl, rfl⟩)
        | (go_at_call 64; refine (C3 _).mono ?_; rintro e w' ⟨rfl, rfl⟩)
        | (go_at_call 62; go_must (refine (C4 _ _ _ ?_).mono ?_); go_must (exact ints_new _ [E1, E2] _); rintro e w' ⟨rfl, rfl⟩))
    all_goals
      go_wp2_with fail
      go_meet
      exact ⟨rfl, by assumption⟩
  case rest =>
    obtain ⟨rfl, hkk⟩ := hcut
    have hbc : Below w.heap.size w wc := hB1.trans (hkk.1.mono hB1.size)
    have y1 := (hkk.1.block _ t0).trans Y1.out
    have y2 := (hkk.1.block _ t1).trans Y2.out
    have hpc := por_call hkk.1 hp1
    have t3 : w.heap.size + 1 < wc.heap.size := by have := hkk.1.size; omega
    have m0 : wc.cell? ⟨w.heap.size, 0, none⟩ = some (I most) := cell_of_row wc _ 0 _ _ _ y1
    have g0 : wc.cell? ⟨w.heap.size + 1, 0, none⟩ = some (I n) := cell_of_row wc _ 0 _ _ _ y2
    have g1 : wc.cell? ⟨w.heap.size + 1, 1, none⟩ = some (.slice A ps.length c) := cell_of_row wc _ 1 _ _ _ y2
    have Y1 := Lib.hid y1
    have Y2 := Lib.hid y2
    clear hkk C1 C2 C3 C4 y1 y2 t0 t1 hp1
    have g2 : (E != 0) = true := by have := HNE.out; rw [← HEE.out] at this; simpa using this
    go_wp2
    go_ret2
    exact ⟨by rw [← HEE.out]; rfl, hbc⟩

set_option maxRecDepth 100000 in
set_option maxHeartbeats 4000000 in
theorem Hang_yes (k m : Nat) (A : Option Addr) (c : Nat) (ps : List Por) (w : World) (hp : PorR w w.heap.size A ps) (hpl : ps.length ≤ maxLen) (HZ : Hid (hgE k m ps = 0)) (hk6 : k ≤ 6) (hm1 : 1 ≤ m) (hm64 : m ≤ 64) :
    Calls Try.prog 46 #[I k, .slice A ps.length c, I m] w fun e w' => ∃ A' c', e = .returned (.tuple #[.slice A' ((hngL k ps).take m).length c', I 0]) ∧ SlsR w' w'.heap.size A' ((hngL k ps).take m) ∧ ((hngL k ps).take m).length ≤ maxLen ∧ Below w.heap.size w w' := by
  obtain ⟨E1, hE1⟩ : ∃ E1, E1 = porE k ps := ⟨_, rfl⟩
  obtain ⟨b2, hb2e⟩ : ∃ b2, b2 = wi m 1 64 := ⟨_, rfl⟩
  obtain ⟨E2, hE2⟩ : ∃ E2 : Int, E2 = if b2 then 0 else 1 := ⟨_, rfl⟩
  obtain ⟨E, hE⟩ : ∃ E, E = fstErr [E1, E2] := ⟨_, rfl⟩
  have C1 : ∀ V, PorR V V.heap.size A ps → Calls Try.prog 113 #[galV k A ps.length c] V fun e w' => e = .returned (I E1) ∧ Below V.heap.size V w' := fun V h => by rw [hE1]; exact gcheck_any k A c ps V h hpl
  have C2 : ∀ V, Calls Try.prog 65 #[I m, I 1, I 64] V fun e w' => e = .returned (.bool b2) ∧ V = w' := fun V => by rw [hb2e]; exact within_any _ _ _ _
  have C3 : ∀ V, Calls Try.prog 64 #[.bool b2, I 1] V fun e w' => e = .returned (I E2) ∧ w' = V := fun V => by rw [hE2]; exact unless_any b2 1 V
  have C4 : ∀ (V : World) (B : Option Addr) (k : Nat), IntsR V V.heap.size B [E1, E2] → Calls Try.prog 62 #[.slice B 2 k] V fun e w' => e = .returned (I E) ∧ w' = V := fun V B k h => by
    rw [hE]; exact (first_any B k [E1, E2] V h (by simp [maxLen])).mono fun e w' ⟨p, q⟩ => ⟨p, q.symm⟩
  have HEE := Lib.hid (show E = hgE k m ps by rw [hE, hE1, hE2, hb2e, hgE])
  clear hE1 hb2e hE2 hE
  refine (callsIn_wide (n := 20)).1 (callsIn_of_wp_marks Try.func46 rfl trivial ?_ rfl)
  rw [wpIn_wide]
  simp only [Try.ntmps46, List.size_toArray, List.length_cons, List.length_nil, Nat.reduceAdd, Nat.reduceSub, Array.replicate_succ, Array.replicate_zero, List.push_toArray, List.append_toArray, List.nil_append, List.cons_append]
  go_upto_region 2 with fail
  obtain ⟨wa, ha, sa, ya, ba⟩ := one_box w (.cells #[I m] 3)
  obtain ⟨w1, hw1, s1, y1, hb1⟩ := one_box wa (.cells #[I k, .slice A ps.length c] 127)
  rw [sa] at y1
  rw [ha] at hw1
  rw [← hw1]
  have ym := (hb1.block _ (by omega)).trans ya
  have hB1 : Below w.heap.size w w1 := ba.trans (hb1.mono (by omega))
  have m0 : w1.cell? ⟨w.heap.size, 0, none⟩ = some (I m) := cell_of_row w1 _ 0 _ _ _ ym
  have g0 : w1.cell? ⟨w.heap.size + 1, 0, none⟩ = some (I k) := cell_of_row w1 _ 0 _ _ _ y1
  have g1 : w1.cell? ⟨w.heap.size + 1, 1, none⟩ = some (.slice A ps.length c) := cell_of_row w1 _ 1 _ _ _ y1
  have hp1 := por_call hB1 hp
  have t0 : w.heap.size < w1.heap.size := by omega
  have t1 : w.heap.size + 1 < w1.heap.size := by omega
  have Y1 := Lib.hid ym
  have Y2 := Lib.hid y1
  clear hw1 ha ya ba sa s1 y1 ym hb1 hp wa
  go_cut [9] from 9 to 21 (fun s9 wx => s9 = I E ∧ KeptS w1 wx)
  case first =>
    go_region_held3 (fun w' => Below w1.heap.size w1 w' ∧ (∀ b o, b < w1.heap.size → w'.cell? ⟨b, o, none⟩ = w1.cell? ⟨b, o, none⟩))
      (first | exact keptS_drew _ | exact keptS_call (by assumption) hb | exact keptS_alloc (by assumption) _ | assumption)
      (first
        | (go_at_call 113; go_must (refine (C1 _ ?_).mono ?_); go_must (exact por_call (And.left (by assumption : KeptS w1 _)) hp1); rintro e w' ⟨rfl, hb⟩)
        | (go_at_call 65; refine (C2 _).mono ?_; rintro e w' ⟨rfl, rfl⟩)
        | (go_at_call 64; refine (C3 _).mono ?_; rintro e w' ⟨rfl, rfl⟩)
        | (go_at_call 62; go_must (refine (C4 _ _ _ ?_).mono ?_); go_must (exact ints_new _ [E1, E2] _); rintro e w' ⟨rfl, rfl⟩))
    all_goals
      go_wp2_with fail
      go_meet
      exact ⟨rfl, by assumption⟩
  case rest =>
    obtain ⟨rfl, hkk⟩ := hcut
    have hbc : Below w.heap.size w wc := hB1.trans (hkk.1.mono hB1.size)
    have y1 := (hkk.1.block _ t0).trans Y1.out
    have y2 := (hkk.1.block _ t1).trans Y2.out
    have hpc := por_call hkk.1 hp1
    have t3 : w.heap.size + 1 < wc.heap.size := by have := hkk.1.size; omega
    have m0 : wc.cell? ⟨w.heap.size, 0, none⟩ = some (I m) := cell_of_row wc _ 0 _ _ _ y1
    have g0 : wc.cell? ⟨w.heap.size + 1, 0, none⟩ = some (I k) := cell_of_row wc _ 0 _ _ _ y2
    have g1 : wc.cell? ⟨w.heap.size + 1, 1, none⟩ = some (.slice A ps.length c) := cell_of_row wc _ 1 _ _ _ y2
    have Y1 := Lib.hid y1
    have Y2 := Lib.hid y2
    clear hkk C1 C2 C3 C4 y1 y2 t0 t1 hp1
    have g2 : (E != 0) = false := by rw [HEE.out, HZ.out]; rfl
    go_wp2_with fail
    obtain ⟨w2, hw2, hs2, hn2, hb2⟩ := one_box wc (.cells #[.slice none 0 0] 57)
    rw [← hw2]
    clear hw2
    have hbd2 : Below w.heap.size w w2 := hbc.trans (hb2.mono hbc.size)
    have y1 := (hb2.block _ (by omega)).trans Y1.out
    have y2 := (hb2.block _ (by omega)).trans Y2.out
    have Y1 := Lib.hid y1
    have Y2 := Lib.hid y2
    have hp2 := hpc.below hb2 (Nat.le_refl _)
    have HBD := Lib.hid (hng_most (ps := ps) hk6)
    obtain ⟨L, hL⟩ : ∃ L, L = hngL k ps := ⟨_, rfl⟩
    have HLH := Lib.hid hL
    have HEC := Lib.hid (fun x (h : x ∈ L) => hng_each (n := k) (ps := ps) x (by rw [← hL]; exact h))
    clear y1 y2 hpc m0 g0 g1
    have t0 : w.heap.size + 1 < w2.heap.size := by omega
    have t2 : wc.heap.size < w2.heap.size := by omega
    clear hs2
    refine wpIn_wide.1 (wpIn_loopR (n := 20) rfl (by omega) (gf := 114) (fa := #[galV k A ps.length c]) (lb := #[]) rfl trivial (enters_of Try.func114 (by kernel_rfl) rfl) (m := L.length) (E := fun s => lstE (s + 2) k L) (G := fun V => PorR V wc.heap.size A ps) 5
      (fun V hV _ _ => by rw [HLH.out]; exact hangings_iter k A c ps hk6 hpl 19 wc.heap.size V (by have := hV.size; omega)) rfl
      (fun j V => j < m ∧ (∃ v, V.heap[wc.heap.size]? = some (.cells #[v] 57 (0, 0)) ∧ Lists V (w2.heap.size + 7) v (L.take j)) ∧ w2.grownBy V (some wc.heap.size))
      (fun cd j V => cd = .exit 0 ∧ j = m ∧ (∃ v, V.heap[wc.heap.size]? = some (.cells #[v] 57 (0, 0)) ∧ Lists V (w2.heap.size + 7) v (L.take j)) ∧ w2.grownBy V (some wc.heap.size))
      ?closed ?closedx ?toG ⟨by omega, ⟨_, hn2, Lists.nil _ _⟩, World.grownBy.refl _ _⟩ ?round ?done ?stop)
    case closed =>
      rintro j X Y ⟨h0, ⟨v, h1, h2⟩, h3⟩ hb
      exact ⟨h0, ⟨v, (hb.low.block _ (by omega)).trans h1, h2.keepD hb⟩, low_grown h3 hb.low⟩
    case closedx =>
      rintro cd j X Y ⟨e, h0, ⟨v, h1, h2⟩, h3⟩ hb
      exact ⟨e, h0, ⟨v, (hb.low.block _ (by omega)).trans h1, h2.keepD hb⟩, low_grown h3 hb.low⟩
    case toG =>
      rintro j X ⟨-, -, h⟩
      exact hp2.below (below_grown h (by omega)) (Nat.le_refl _)
    case round =>
      rintro l j hj X v0 hl1 hl2 hl3 ⟨h0, ⟨v, h1, hLs⟩, hX⟩ ⟨rfl, hrX⟩
      have hsn : L.take (j + 1) = L.take j ++ [L[j]] := List.take_succ_eq_append_getElem hj
      have hjl : (L.take j).length = j := by simp; omega
      have hxl : (L[j]).length = k := HEC.out _ (List.getElem_mem hj)
      rw [List.getD_eq_getElem?_getD, List.getElem?_eq_getElem hj, Option.getD_some] at hrX
      generalize hx0 : L[j] = x at *
      have HSN := Lib.hid hsn
      have HJL := Lib.hid hjl
      have HXL := Lib.hid hxl
      clear hx0 hsn hjl hxl
      gi_wp2
      refine ⟨Below.refl _ _, fun o => ?_⟩
      obtain ⟨Y, hYd⟩ : ∃ Y, Y = X.putObj l o := ⟨_, rfl⟩
      rw [← hYd]
      have hXY : Below w2.heap.size X Y := by rw [hYd]; exact below_putObj _ _ hl1
      have hXYD : BelowD w2.heap.size (w2.heap.size + 7) X Y := by rw [hYd]; exact .putObj _ _ hl1 (by omega)
      have hrY : Y.heap[w2.heap.size + 2 + 2]? = some (.cells (x.map I).toArray 3 (0, 0)) := by
        rw [hYd]; exact (World.putObj_heap_other (by omega)).trans hrX
      have hY := low_grown hX hXY
      have hsY : w2.heap.size + 2 + 2 < Y.heap.size := row_lt' hrY
      have hsY7 : w2.heap.size + 7 ≤ Y.heap.size := by have := hXY.size; omega
      have hLY := hLs.keepD hXYD
      have y0 := (hXY.block _ (by omega)).trans h1
      have y1 := (hY.block w.heap.size (by omega) (fun e => by injection e with e; omega)).trans Y1.out
      clear hYd h1 hLs hrX
      have b0 : Y.cell? ⟨wc.heap.size, 0, none⟩ = some v := cell_of_row Y _ 0 _ _ _ y0
      have m0 : Y.cell? ⟨w.heap.size, 0, none⟩ = some (I m) := cell_of_row Y _ 0 _ _ _ y1
      have H0 := Lib.hid y0
      have hix := ints_row hrY hsY
      have hcl : ∀ V, IntsR V V.heap.size (some ⟨w2.heap.size + 2 + 2, 0, none⟩) x → Calls Try.prog 115 #[.slice (some ⟨w2.heap.size + 2 + 2, 0, none⟩) k k] V fun e w' => ∃ v, e = .returned v ∧ w'.ownsRow V.heap.size 3 1 v x.length (x.map I) ∧ Below V.heap.size V w' := fun V h => by
        have := clone_any ⟨w2.heap.size + 2 + 2, 0, none⟩ k x V h (by rw [HXL.out]; omega)
        rw [HXL.out] at this ⊢
        exact this
      clear y0 y1 hrY hp2 hn2
      gi_upto_region 8 with fail
      refine wpIn_region_inv (by kernel_rfl) (by intro o ho c; simp only [List.mem_toArray, List.mem_cons, List.not_mem_nil, or_false] at ho; rcases ho with rfl | rfl | rfl | rfl | rfl | rfl <;> simp) (fun L0 a w' => L0.size = 6 ∧ ∃ (ph : Nat) (v28 v29 v30 v31 v32 : Value), a = { tmps := #[I k, .slice A ps.length c, I m, undef, undef, .pointer (some ⟨w.heap.size, 0, none⟩), .slice none 0 0, .int .i64 0, .pointer (some ⟨w.heap.size + 1, 0, none⟩), I E, .pointer (some ⟨wc.heap.size, 0, none⟩), .slice (some ⟨w2.heap.size + 2 + 2, 0, none⟩) k k, u12, u13, u14, u15, u16, u17, u18, u19, u20, u21, I E, .bool false, undef, .agg #[I k, .slice A ps.length c], .func (.func 114) #[.agg #[I k, .slice A ps.length c]] #[], .slice (some ⟨w2.heap.size + 2 + 2, 0, none⟩) k k, v28, v29, v30, v31, v32, undef, undef, undef, undef, undef], defers := [] } ∧ (L0.getD 0 false = true → v28 = v) ∧ (L0.getD 1 false = true → v29 = .slice (some ⟨w2.heap.size + 2 + 2, 0, none⟩) k k) ∧ L0.getD 2 false = decide (1 ≤ ph) ∧ L0.getD 3 false = decide (2 ≤ ph) ∧ L0.getD 4 false = decide (3 ≤ ph) ∧ L0.getD 5 false = decide (4 ≤ ph) ∧ ph ≤ 4 ∧ (1 ≤ ph → L0.getD 1 false = true) ∧ (3 ≤ ph → L0.getD 0 false = true) ∧ RdP w2 Y (w2.heap.size + 7) wc.heap.size v x (L.take j) ph v30 v31 v32 w') ?h0 ?hs ?hd
      case h0 => exact ⟨by simp, 0, undef, undef, undef, undef, undef, rfl, by simp, by simp, by simp, by simp, by simp, by simp, by omega, by omega, by omega, (Below.refl _ _).drew⟩
      case hs =>
        rintro i L0 a w' ⟨hL, ph, v28, v29, v30, v31, v32, rfl, g0, g1, g2, g3, g4, g5, gp, ga, gb, hP⟩ hi
        have hcases : i = 0 ∨ i = 1 ∨ i = 2 ∨ i = 3 ∨ i = 4 ∨ i = 5 := by
          have : i < 6 := ready_lt hi
          omega
        have hn := ready_not' hi (by have : i < 6 := ready_lt hi; omega)
        rcases hcases with rfl | rfl | rfl | rfl | rfl | rfl
        · have hp3 : ph < 3 := by
            by_cases h : 3 ≤ ph
            · rw [gb h] at hn; cases hn
            · omega
          have hc : w'.cell? ⟨wc.heap.size, 0, none⟩ = some v := cell_of_row w' _ 0 _ _ _ (RdP_row hP hp3 H0.out)
          refine ⟨_, rfl, by rfl, opwp_val v (by go_simp) ?_⟩
          exact ⟨by simpa using hL, ph, v, v29, v30, v31, v32, rfl, fun _ => rfl, fun h => g1 ((set_other (by decide)).symm.trans h), (set_other (by decide)).trans g2, (set_other (by decide)).trans g3, (set_other (by decide)).trans g4, (set_other (by decide)).trans g5, gp, fun h => (set_other (by decide)).trans (ga h), fun h => set_same (by omega), hP⟩
        · refine ⟨_, rfl, by rfl, opwp_val (.slice (some ⟨w2.heap.size + 2 + 2, 0, none⟩) k k) (by go_simp) ?_⟩
          exact ⟨by simpa using hL, ph, v28, .slice (some ⟨w2.heap.size + 2 + 2, 0, none⟩) k k, v30, v31, v32, rfl, fun h => g0 ((set_other (by decide)).symm.trans h), fun _ => rfl, (set_other (by decide)).trans g2, (set_other (by decide)).trans g3, (set_other (by decide)).trans g4, (set_other (by decide)).trans g5, gp, fun h => set_same (by omega), fun h => (set_other (by decide)).trans (gb h), hP⟩
        · have d1 := ready_dep hi 1 (by kernel_rfl)
          obtain rfl := g1 d1
          have hp0 : ph = 0 := by have := g2.symm.trans hn; simp at this; omega
          subst hp0
          have hP0 : Below Y.heap.size Y w' := hP
          refine ⟨_, rfl, by rfl, wp_call_fns (vs := #[.slice (some ⟨w2.heap.size + 2 + 2, 0, none⟩) k k]) rfl (by simp [Act.eval]) (enters_of Try.func115 (by kernel_rfl) rfl) ((hcl w' (ints_call hP0 hix)).mono ?_)⟩
          rintro e wv ⟨c', rfl, hown, hb⟩
          exact ⟨by simpa using hL, 1, v28, _, _, v31, v32, rfl, fun h => g0 ((set_other (by decide)).symm.trans h), fun h => g1 ((set_other (by decide)).symm.trans h), (set_same (by omega)).trans rfl, (set_other (by decide)).trans g3, (set_other (by decide)).trans g4, (set_other (by decide)).trans g5, by omega, fun _ => (set_other (by decide)).trans d1, by omega, ⟨hP0.trans (hb.mono hP0.size), own_base hown (by have := hP0.size; omega)⟩⟩
        · have hp1 : ph = 1 := by
            have h1 := g2.symm.trans (ready_dep hi 2 (by kernel_rfl))
            have h2 := g3.symm.trans hn
            simp at h1 h2
            omega
          subst hp1
          obtain ⟨hP1, hP2⟩ := hP
          obtain ⟨Ac, cc, rfl, -, -⟩ := own_ints hP2
          refine ⟨_, rfl, by rfl, opwp_res (r := .ok (.value (.slice (some ⟨w'.heap.size, 0, none⟩) 1 1)) (w'.alloc (.cells #[.slice Ac x.length cc] 29))) (by go_simp) ?_⟩
          exact ⟨by simpa using hL, 2, v28, v29, _, _, v32, rfl, fun h => g0 ((set_other (by decide)).symm.trans h), fun h => g1 ((set_other (by decide)).symm.trans h), (set_other (by decide)).trans g2, (set_same (by omega)).trans rfl, (set_other (by decide)).trans g4, (set_other (by decide)).trans g5, by omega, fun _ => (set_other (by decide)).trans (ga (by omega)), by omega, ⟨w', hP1, hP2, rfl, rfl⟩⟩
        · have d0 := ready_dep hi 0 (by kernel_rfl)
          have hp2 : ph = 2 := by
            have h1 := g3.symm.trans (ready_dep hi 3 (by kernel_rfl))
            have h2 := g4.symm.trans hn
            simp at h1 h2
            omega
          subst hp2
          obtain rfl := g0 d0
          obtain ⟨wb, hb, hown, rfl, rfl⟩ := hP
          obtain ⟨vs, ho1, hin1⟩ := hLY.below hb (Nat.le_refl _)
          obtain ⟨i0, hi0, hz0, hz1, hz2⟩ := info_parts info_sl
          obtain ⟨Ac, cc, rfl, -, -⟩ := own_ints hown
          refine ⟨_, rfl, by rfl, wp_append_own _ (.tmp 28) (.tmp 31) 57 rfl (w2.heap.size + 7) 29 i0 (.slice none 0 0) 1 24 Try.underlying57 hi0 hz0 hz1 hz2 rfl (by decide) _ _ vs rfl (ho1.alloc _) ⟨wb.heap.size, 0, none⟩ 1 1 [.slice Ac x.length cc] rfl rfl ?_ ?_ ?_ ?_ ?_ ?_⟩
          · intro q u hq
            match q, hq with
            | 0, hq => simp at hq; subst hq; simp [Addr.add]
          · intro u hu; simp at hu; subst hu; rfl
          · rw [HJL.out]; unfold maxLen; omega
          · rw [HJL.out]; omega
          · simp; have := hb.size; omega
          · intro v' w'' hown' hgrow _
            have hR := rd_after hY H0.out (by omega) (by omega) hsY7 hb hown ho1 hin1 hown' hgrow
            exact ⟨by simpa using hL, 3, _, v29, _, _, _, rfl, fun h => g0 ((set_other (by decide)).symm.trans h), fun h => g1 ((set_other (by decide)).symm.trans h), (set_other (by decide)).trans g2, (set_other (by decide)).trans g3, (set_same (by omega)).trans rfl, (set_other (by decide)).trans g5, by omega, fun _ => (set_other (by decide)).trans (ga (by omega)), fun _ => (set_other (by decide)).trans d0, hR⟩
        · have hp3 : ph = 3 := by
            have h1 := g4.symm.trans (ready_dep hi 4 (by kernel_rfl))
            have h2 := g5.symm.trans hn
            simp at h1 h2
            omega
          subst hp3
          have hR : RdR w2 Y (w2.heap.size + 7) wc.heap.size v (L.take j ++ [x]) v32 w' := hP
          obtain ⟨Ac, cc, rfl, -⟩ := hR.1.sls
          have hc : w'.cell? ⟨wc.heap.size, 0, none⟩ = some v := cell_of_row w' _ 0 _ _ _ hR.2.1
          have hf := frozen_of_row hR.2.1 0
          refine ⟨_, rfl, by rfl, opwp_res (r := .ok .skip (w'.setCell ⟨wc.heap.size, 0, none⟩ (.slice Ac (L.take j ++ [x]).length cc))) (by go_simp) ?_⟩
          exact ⟨by simpa using hL, 4, v28, v29, v30, v31, _, rfl, fun h => g0 ((set_other (by decide)).symm.trans h), fun h => g1 ((set_other (by decide)).symm.trans h), (set_other (by decide)).trans g2, (set_other (by decide)).trans g3, (set_other (by decide)).trans g4, (set_same (by omega)).trans rfl, by omega, fun _ => (set_other (by decide)).trans (ga (by omega)), fun _ => (set_other (by decide)).trans (gb (by omega)), ⟨w', hR, rfl⟩⟩
      case hd =>
        rintro i0 a w' ⟨hL, ph, v28, v29, v30, v31, v32, rfl, g0, g1, g2, g3, g4, g5, gp, ga, gb, hP⟩ hr
        have hall := all_listed hL (by kernel_rfl) hr
        obtain rfl := g0 (hall 0 (by decide))
        have h4 : ph = 4 := by have := (hall 5 (by decide)).symm.trans g5; simp at this; omega
        subst h4
        obtain ⟨wr, hR, rfl⟩ := hP
        obtain ⟨Ac, cc, rfl, -⟩ := hR.1.sls
        have hlen : (L.take j ++ [x]).length = j + 1 := by rw [List.length_append, HJL.out]; rfl
        rw [hlen]
        obtain ⟨r1, r2, r3, r4, r5⟩ := hR
        rw [hlen] at r1
        obtain ⟨Z, hZ⟩ : ∃ Z, Z = wr.setCell ⟨wc.heap.size, 0, none⟩ (.slice Ac (j + 1) cc) := ⟨_, rfl⟩
        rw [← hZ]
        have hzr : Z.heap[wc.heap.size]? = some (.cells #[.slice Ac (j + 1) cc] 57 (0, 0)) := by rw [hZ]; exact row_set r2 0 _
        have hzo : ∀ b, b ≠ wc.heap.size → Z.heap[b]? = wr.heap[b]? := fun b hb => by rw [hZ]; exact Below.heap_setCell _ _ _ _ hb
        have hzs : Z.heap.size = wr.heap.size := by rw [hZ]; simp [World.setCell]
        have hzl : Lists Z (w2.heap.size + 7) (.slice Ac (j + 1) cc) (L.take (j + 1)) := by
          rw [HSN.out]
          exact r1.keepD (lo := wc.heap.size) ⟨by rw [hZ]; exact (Below.refl _ _).setCell (p := ⟨wc.heap.size, 0, none⟩) (Nat.le_refl _) _, fun b h1 _ => hzo b (by omega)⟩
        have hzg : w2.grownBy Z (some wc.heap.size) := by
          refine ⟨?_, ?_, ?_, by rw [hzs]; exact r3.size, fun k hk hn => (hzo k (fun e => hn (by rw [e]))).trans (r3.block k hk hn)⟩
          · rw [hZ]; exact r3.os
          · rw [hZ]; exact r3.tape
          · rw [hZ]; exact r3.output
        have hzk : KeepMid w2.heap.size (w2.heap.size + 2 + 5) Y Z := ⟨by omega, fun b h1 h2 h3 => (hzo b (by omega)).trans (r4.same b h1 h2 h3)⟩
        have b0 : Z.cell? ⟨wc.heap.size, 0, none⟩ = some (.slice Ac (j + 1) cc) := cell_of_row Z _ 0 _ _ _ hzr
        have m0 : Z.cell? ⟨w.heap.size, 0, none⟩ = some (I m) := cell_of_row Z _ 0 _ _ _ ((hzg.block w.heap.size (by omega) (fun e => by injection e with e; omega)).trans Y1.out)
        have HZR := Lib.hid hzr
        clear hr hZ hzr hall g0 g1 g2 g3 g4 g5 ga gb gp hL r1 r2 r3 r4 r5
        by_cases hjm : j + 1 = m
        · have hb5 : (((j + 1 : Nat) : Int) == (m : Int)) = true := by simp; omega
          gi_wp2
          exact ⟨hzk, rfl, hjm, ⟨_, HZR.out, hzl⟩, hzg⟩
        · have hb5 : (((j + 1 : Nat) : Int) == (m : Int)) = false := by simp; omega
          gi_wp2
          exact ⟨hzk, by omega, ⟨_, HZR.out, hzl⟩, hzg⟩
    case done =>
      rintro X ⟨h0, ⟨v, h1, hLs⟩, hX⟩ hK
      have HT := Lib.hid (show L.take m = L.take L.length by rw [List.take_length]; exact List.take_of_length_le (by omega))
      obtain ⟨Av, cv, rfl, -, hm9, -⟩ := hLs.sls
      have b0 : X.cell? ⟨wc.heap.size, 0, none⟩ = some (.slice Av (L.take L.length).length cv) := cell_of_row X _ 0 _ _ _ h1
      have HLS := Lib.hid hLs
      clear h1 hLs hn2 hp2
      go_wp2
      refine ⟨by simp, .inl ⟨_, _, rfl, run_takeDeferred hK, ?_⟩⟩
      obtain ⟨A3, c3, e3, h3, -⟩ := (HLS.out.keepD (BelowD.putObj (lo := w2.heap.size) X (.deferred none) (Nat.le_refl _) (by omega))).sls
      refine ⟨_, results_tmp2 rfl _ _ _, Av, cv, by rw [← HLH.out, HT.out, List.take_length]; rfl, ?_, by rw [← HLH.out, HT.out]; exact hm9, hbd2.trans ((below_grown hX (by omega)).trans (below_putObj _ _ (by omega)) |>.mono (by omega))⟩
      rw [← HLH.out, HT.out]
      injection e3 with e3 _ _
      rw [e3]
      exact h3
    case stop =>
      rintro cd j X j0 j1 ⟨rfl, rfl, ⟨v, h1, hLs⟩, hX⟩ hK
      have hlj : (L.take j).length = j := by simp; omega
      obtain ⟨Av, cv, hv, -, hm9, -⟩ := hLs.sls
      rw [hlj] at hv
      subst hv
      have b0 : X.cell? ⟨wc.heap.size, 0, none⟩ = some (.slice Av j cv) := cell_of_row X _ 0 _ _ _ h1
      have HLS := Lib.hid hLs
      have HLJ := Lib.hid hlj
      clear h1 hLs hn2 hp2 hlj
      gi_wp2
      go_wp2
      refine ⟨by simp, .inl ⟨_, _, rfl, run_takeDeferred hK, ?_⟩⟩
      obtain ⟨A3, c3, e3, h3, -⟩ := (HLS.out.keepD (BelowD.putObj (lo := w2.heap.size) X (.deferred none) (Nat.le_refl _) (by omega))).sls
      refine ⟨_, results_tmp2 rfl _ _ _, Av, cv, by rw [← HLH.out, HLJ.out]; rfl, ?_, by rw [← HLH.out]; exact hm9, hbd2.trans ((below_grown hX (by omega)).trans (below_putObj _ _ (by omega)) |>.mono (by omega))⟩
      rw [← HLH.out]
      injection e3 with e3 _ _
      rw [e3]
      exact h3

theorem Hang_any (n most : Int) (A : Option Addr) (c : Nat) (ps : List Por) (w : World) (hp : PorR w w.heap.size A ps) (hpl : ps.length ≤ maxLen) :
    Calls Try.prog 46 #[I n, .slice A ps.length c, I most] w fun e w' => ∃ A' c', e = .returned (.tuple #[.slice A' (hgL n most ps).length c', I (hgE n most ps)]) ∧ SlsR w' w'.heap.size A' (hgL n most ps) ∧ (hgL n most ps).length ≤ maxLen ∧ Below w.heap.size w w' := by
  by_cases h0 : hgE n most ps = 0
  · obtain ⟨⟨n1, n2⟩, m1, m2⟩ := hgE_ok h0
    obtain ⟨k, rfl⟩ := Int.eq_ofNat_of_zero_le (show 0 ≤ n by omega)
    obtain ⟨m, rfl⟩ := Int.eq_ofNat_of_zero_le (show 0 ≤ most by omega)
    have e : hgL k m ps = (hngL k ps).take m := by rw [hgL, if_pos h0]; rfl
    rw [e, h0]
    exact Hang_yes k m A c ps w hp hpl (Lib.hid h0) (by omega) (by omega) (by omega)
  · have e : hgL n most ps = [] := by rw [hgL, if_neg h0]
    rw [e]
    refine (Hang_no n most A c ps w hp hpl (Lib.hid h0)).mono ?_
    rintro e w' ⟨rfl, hb⟩
    exact ⟨none, 0, rfl, fun h => absurd h (Nat.lt_irrefl 0), Nat.zero_le _, hb⟩
end Go.Proofs.Ytglkjiimmlobbaa
