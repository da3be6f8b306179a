/-
  CONTRACTS: codes.Check, CheckClue, CheckCode, Holds; padlockref01.Holds.
-/
import Derived.Test.YthegmomjfbcabaaDoorRefB
namespace Go.Proofs.YthegmomjfbcabaaDoor
open Go.RowKit Go.Shelf
set_option maxHeartbeats 400000 in
theorem Check_any (W S : Int) (w : World) :
    Calls Tryd.prog 19 #[lockV W S] w fun e w' => e = .returned (.int .i64 (lockErr W S)) ∧ Below w.heap.size w w' := by
  go_enter Tryd.func19, Tryd.ntmps19
  go_wp2_with fail
  refine (lockCheck_any _ _ _).mono ?_
  rintro e w2 ⟨rfl, hb2⟩
  go_wp2
  go_ret
  exact ⟨rfl, ((Below.refl _ _).alloc (Nat.le_refl _) _).trans (hb2.mono (by simp))⟩

set_option maxRecDepth 100000 in
set_option maxHeartbeats 2000000 in
theorem CheckClue_any (W S : Int) (cl : Cl) (Ag : Option Addr) (cap : Nat) (w : World) (hT : Tab w) (hg : IntsR w w.heap.size Ag cl.guess) (lg : cl.guess.length ≤ maxLen) :
    Calls Tryd.prog 21 #[lockV W S, clV cl Ag cap] w fun e w' => e = .returned (.int .i64 (rClueErr W S cl)) ∧ Below w.heap.size w w' := by
  obtain ⟨k, a, b, n, m, g, ng⟩ := cl
  go_enter Tryd.func21, Tryd.ntmps21
  go_upto_region 1 with fail
  obtain ⟨w1, hw1⟩ : ∃ w1, w1 = (w.alloc (.cells #[I W, I S] 23)).alloc (.cells #[I k, I a, I b, I n, I m, .slice Ag g.length cap, .bool ng] 26) := ⟨_, rfl⟩
  rw [← hw1]
  have l0 : w1.cell? ⟨w.heap.size, 0, none⟩ = some (I W) := by rw [hw1]; exact (World.cell?_alloc_lt _ _ _ (by simp)).trans (alloc_cell _ _ _ 0)
  have l1 : w1.cell? ⟨w.heap.size, 1, none⟩ = some (I S) := by rw [hw1]; exact (World.cell?_alloc_lt _ _ _ (by simp)).trans (alloc_cell _ _ _ 1)
  have bc := fun i => (by rw [hw1]; exact alloc_cell' _ _ _ _ i (by simp) : w1.cell? ⟨w.heap.size + 1, i, none⟩ = (#[I k, I a, I b, I n, I m, .slice Ag g.length cap, .bool ng] : Array Value)[i]?)
  have q0 : w1.cell? ⟨w.heap.size + 1, 0, none⟩ = some (I k) := bc 0
  have q1 : w1.cell? ⟨w.heap.size + 1, 1, none⟩ = some (I a) := bc 1
  have q2 : w1.cell? ⟨w.heap.size + 1, 2, none⟩ = some (I b) := bc 2
  have q3 : w1.cell? ⟨w.heap.size + 1, 3, none⟩ = some (I n) := bc 3
  have q4 : w1.cell? ⟨w.heap.size + 1, 4, none⟩ = some (I m) := bc 4
  have q5 : w1.cell? ⟨w.heap.size + 1, 5, none⟩ = some (.slice Ag g.length cap) := bc 5
  have q6 : w1.cell? ⟨w.heap.size + 1, 6, none⟩ = some (.bool ng) := bc 6
  have hb1 : Below w.heap.size w w1 := by rw [hw1]; exact two_boxes _ _ _
  have s0 : w.heap.size < w1.heap.size := by rw [hw1]; simp; omega
  have s1 : w.heap.size + 1 < w1.heap.size := by rw [hw1]; simp
  have hg1 := ints_call hb1 hg
  have hT1 := hT.below hb1
  clear bc hw1 hg hT
  go_region_held3 (fun w' => Below w1.heap.size w1 w' ∧ (∀ b o, b < w1.heap.size → w'.cell? ⟨b, o, none⟩ = w1.cell? ⟨b, o, none⟩))
    (first | exact keptS_drew _ | exact keptS_call (by assumption) hb | exact keptS_alloc (by assumption) _ | assumption)
    (first
      | (go_at_call 61; refine (lockCheck_any _ _ _).mono ?_; rintro e w' ⟨rfl, hb⟩)
      | (go_at_call 64; go_must (refine (checkClue_any _ _ ⟨k, a, b, n, m, g, ng⟩ Ag cap _ ?_ ?_ lg).mono ?_); go_must (exact hT1.below (And.left (by assumption : KeptS w1 _))); go_must (exact kept_ints (by assumption) hg1); rintro e w' ⟨rfl, hb⟩)
      | (go_at_call 63; go_must (refine (first_any _ _ [lockErr W S, clueErr W S ⟨k, a, b, n, m, g, ng⟩] _ ?_ ?_).mono ?_); go_must (exact ints_new _ [lockErr W S, clueErr W S ⟨k, a, b, n, m, g, ng⟩] _); go_must (simp [maxLen]); rintro e w' ⟨rfl, rfl⟩))
  all_goals
    go_wp2_with fail
    go_ret
    exact ⟨rfl, hb1.trans (Below.mono (And.left (by assumption : KeptS w1 _)) (by omega))⟩

def codE (W S : Int) (x : List Int) : Int := fstErr [lockErr W S, codesErr W S [x]]
theorem codE_eq (W S : Int) (x : List Int) : codE W S x = rCodeErr W S x := by
  rw [codE, fst2', rCodeErr, codesErr]; simp
set_option maxRecDepth 100000 in
set_option maxHeartbeats 2000000 in
theorem CheckCode_any (W S : Int) (A2 : Option Addr) (k2 : Nat) (x : List Int) (w : World) (hx : IntsR w w.heap.size A2 x) (lx : x.length ≤ maxLen) :
    Calls Tryd.prog 23 #[lockV W S, .slice A2 x.length k2] w fun e w' => e = .returned (.int .i64 (rCodeErr W S x)) ∧ Below w.heap.size w w' := by
  rw [← codE_eq]
  go_enter Tryd.func23, Tryd.ntmps23
  go_upto_region 1 with fail
  obtain ⟨w1, hw1⟩ : ∃ w1, w1 = w.alloc (.cells #[I W, I S] 23) := ⟨_, rfl⟩
  rw [← hw1]
  have l0 : w1.cell? ⟨w.heap.size, 0, none⟩ = some (I W) := by rw [hw1]; exact alloc_cell _ _ _ 0
  have l1 : w1.cell? ⟨w.heap.size, 1, none⟩ = some (I S) := by rw [hw1]; exact alloc_cell _ _ _ 1
  have hb1 : Below w.heap.size w w1 := by rw [hw1]; exact (Below.refl _ _).alloc (Nat.le_refl _) _
  have s1 : w.heap.size < w1.heap.size := by rw [hw1]; simp
  have hx1 := ints_call hb1 hx
  clear hw1 hx
  go_region_held3 (fun w' => Below w1.heap.size w1 w' ∧ (∀ b o, b < w1.heap.size → w'.cell? ⟨b, o, none⟩ = w1.cell? ⟨b, o, none⟩))
    (first | exact keptS_drew _ | exact keptS_call (by assumption) hb | exact keptS_alloc (by assumption) _ | assumption)
    (first
      | (go_at_call 61; refine (lockCheck_any _ _ _).mono ?_; rintro e w' ⟨rfl, hb⟩)
      | (go_at_call 66; go_must (refine (checkCodes_any _ _ _ _ [x] _ ?_ ?_).mono ?_); go_must (refine slsR_one (t := 24) (A := A2) (c := k2) (by assumption) hx1 lx ?_); go_must (first | exact Below.refl _ _ | exact (Below.refl _ _).drew | exact hb | exact below_from_drew hb | exact below_two (by assumption) hb | exact below_two (below_from_drew (by assumption)) hb | exact below_two (by assumption) (below_from_drew hb) | exact below_two (below_from_drew (by assumption)) (below_from_drew hb)); go_must (simp [maxLen]); rintro e w' ⟨rfl, hb⟩)
      | (go_at_call 63; go_must (refine (first_any _ _ [lockErr W S, codesErr W S [x]] _ ?_ ?_).mono ?_); go_must (exact ints_new _ [lockErr W S, codesErr W S [x]] _); go_must (simp [maxLen]); rintro e w' ⟨rfl, rfl⟩))
  all_goals
    go_wp2_with fail
    go_ret
    exact ⟨rfl, hb1.trans (Below.mono (And.left (by assumption : KeptS w1 _)) (by omega))⟩

def hldE (W S : Int) (c : Cl) (x : List Int) : Int := fstErr [lockErr W S, clueErr W S c, codesErr W S [x]]
def hldB (W S : Int) (c : Cl) (x : List Int) : Bool := decide (hldE W S c x = 0) && holdB W.toNat c x
theorem hldE_eq (W S : Int) (c : Cl) (x : List Int) : hldE W S c x = if rClueErr W S c = 0 then (if codeB W S x then 0 else 12) else rClueErr W S c := by
  rw [hldE, fst3', rClueErr, fst2', codesErr]
  by_cases h : lockErr W S = 0
  · rw [if_pos h, if_pos h]
    simp
  · rw [if_neg h, if_neg h, if_neg h]
theorem hldE_facts {W S : Int} {c : Cl} {x : List Int} (h : hldE W S c x = 0) : lockOk W S = true ∧ clueB W S c = true ∧ codeB W S x = true := by
  rw [hldE, fst3'] at h
  by_cases h1 : lockErr W S = 0
  · rw [if_pos h1] at h
    by_cases h2 : clueErr W S c = 0
    · rw [if_pos h2] at h
      have h3 := codesErr_zero.1 h
      simp only [List.all_cons, List.all_nil, Bool.and_true] at h3
      refine ⟨lockErr_zero.1 h1, ?_, h3⟩
      unfold clueErr errIf at h2
      cases h4 : clueB W S c
      · rw [h4] at h2; simp at h2
      · rfl
    · rw [if_neg h2] at h; exact absurd h h2
  · rw [if_neg h1] at h; exact absurd h h1

set_option maxRecDepth 100000 in
set_option maxHeartbeats 4000000 in
theorem Holds_any (W S : Int) (cl : Cl) (Ag A2 : Option Addr) (cap k2 : Nat) (x : List Int) (w : World) (hT : Tab w) (hg : IntsR w w.heap.size Ag cl.guess) (lg : cl.guess.length ≤ maxLen) (hx : IntsR w w.heap.size A2 x) (lx : x.length ≤ maxLen) :
    Calls Tryd.prog 25 #[lockV W S, clV cl Ag cap, .slice A2 x.length k2] w fun e w' => e = .returned (.tuple #[.bool (hldB W S cl x), I (hldE W S cl x)]) ∧ Below w.heap.size w w' := by
  obtain ⟨k, a, b, n, m, g, ng⟩ := cl
  go_enter Tryd.func25, Tryd.ntmps25
  go_upto_region 2 with fail
  obtain ⟨w1, hw1⟩ : ∃ w1, w1 = ((w.alloc (.cells #[I W, I S] 23)).alloc (.cells #[I k, I a, I b, I n, I m, .slice Ag g.length cap, .bool ng] 26)).alloc (.cells #[I W, I S] 78) := ⟨_, rfl⟩
  rw [← hw1]
  have l0 : w1.cell? ⟨w.heap.size + 1 + 1, 0, none⟩ = some (I W) := by rw [hw1]; exact alloc_cell' _ _ _ _ 0 (by simp)
  have l1 : w1.cell? ⟨w.heap.size + 1 + 1, 1, none⟩ = some (I S) := by rw [hw1]; exact alloc_cell' _ _ _ _ 1 (by simp)
  have bc := fun i => (by rw [hw1]; exact (World.cell?_alloc_lt _ _ _ (by simp)).trans (alloc_cell' _ _ _ _ i (by simp)) : w1.cell? ⟨w.heap.size + 1, i, none⟩ = (#[I k, I a, I b, I n, I m, .slice Ag g.length cap, .bool ng] : Array Value)[i]?)
  have q0 : w1.cell? ⟨w.heap.size + 1, 0, none⟩ = some (I k) := bc 0
  have q1 : w1.cell? ⟨w.heap.size + 1, 1, none⟩ = some (I a) := bc 1
  have q2 : w1.cell? ⟨w.heap.size + 1, 2, none⟩ = some (I b) := bc 2
  have q3 : w1.cell? ⟨w.heap.size + 1, 3, none⟩ = some (I n) := bc 3
  have q4 : w1.cell? ⟨w.heap.size + 1, 4, none⟩ = some (I m) := bc 4
  have q5 : w1.cell? ⟨w.heap.size + 1, 5, none⟩ = some (.slice Ag g.length cap) := bc 5
  have q6 : w1.cell? ⟨w.heap.size + 1, 6, none⟩ = some (.bool ng) := bc 6
  have hb1 : Below w.heap.size w w1 := by rw [hw1]; exact (two_boxes _ _ _).alloc (by simp; omega) _
  have s0 : w.heap.size + 1 + 1 < w1.heap.size := by rw [hw1]; simp
  have s1 : w.heap.size + 1 < w1.heap.size := by omega
  have hg1 := ints_call hb1 hg
  have hx1 := ints_call hb1 hx
  have hT1 := hT.below hb1
  clear bc hw1 hg hx hT
  go_cut [9] (fun s9 wx => s9 = I (hldE W S ⟨k, a, b, n, m, g, ng⟩ x) ∧ KeptS w1 wx)
  case first =>
    go_region_held3 (fun w' => Below w1.heap.size w1 w' ∧ (∀ b o, b < w1.heap.size → w'.cell? ⟨b, o, none⟩ = w1.cell? ⟨b, o, none⟩))
      (first | exact keptS_drew _ | exact keptS_call (by assumption) hb | exact keptS_alloc (by assumption) _ | assumption)
      (first
        | (go_at_call 61; refine (lockCheck_any _ _ _).mono ?_; rintro e w' ⟨rfl, hb⟩)
        | (go_at_call 64; go_must (refine (checkClue_any _ _ ⟨k, a, b, n, m, g, ng⟩ Ag cap _ ?_ ?_ lg).mono ?_); go_must (exact hT1.below (And.left (by assumption : KeptS w1 _))); go_must (exact kept_ints (by assumption) hg1); rintro e w' ⟨rfl, hb⟩)
        | (go_at_call 66; go_must (refine (checkCodes_any _ _ _ _ [x] _ ?_ ?_).mono ?_); go_must (refine slsR_one (t := 24) (A := A2) (c := k2) (by assumption) hx1 lx ?_); go_must (first | exact Below.refl _ _ | exact (Below.refl _ _).drew | exact hb | exact below_from_drew hb | exact below_two (by assumption) hb | exact below_two (below_from_drew (by assumption)) hb | exact below_two (by assumption) (below_from_drew hb) | exact below_two (below_from_drew (by assumption)) (below_from_drew hb)); go_must (simp [maxLen]); rintro e w' ⟨rfl, hb⟩)
        | (go_at_call 63; go_must (refine (first_any _ _ [lockErr W S, clueErr W S ⟨k, a, b, n, m, g, ng⟩, codesErr W S [x]] _ ?_ ?_).mono ?_); go_must (exact ints_new _ [lockErr W S, clueErr W S ⟨k, a, b, n, m, g, ng⟩, codesErr W S [x]] _); go_must (simp [maxLen]); rintro e w' ⟨rfl, rfl⟩))
    all_goals
      go_wp2_with fail
      go_meet
      exact ⟨rfl, by assumption⟩
  case rest =>
    obtain ⟨rfl, hk⟩ := hcut
    have l0 := (hk.2 _ 0 s0).trans l0
    have l1 := (hk.2 _ 1 s0).trans l1
    have q0 := (hk.2 _ 0 s1).trans q0
    have q1 := (hk.2 _ 1 s1).trans q1
    have q2 := (hk.2 _ 2 s1).trans q2
    have q3 := (hk.2 _ 3 s1).trans q3
    have q4 := (hk.2 _ 4 s1).trans q4
    have q5 := (hk.2 _ 5 s1).trans q5
    have q6 := (hk.2 _ 6 s1).trans q6
    have hkb := hk.1
    have hx2 := kept_ints hk hx1
    have hg2 := kept_ints hk hg1
    have hbc : Below w.heap.size w wc := hb1.trans (hkb.mono (by omega))
    have t0 : w.heap.size + 1 + 1 < wc.heap.size := by have := hkb.size; omega
    have t1 : w.heap.size + 1 < wc.heap.size := by omega
    clear hk hkb hx1 hg1 hT1 s0 s1
    by_cases he : hldE W S ⟨k, a, b, n, m, g, ng⟩ x = 0
    · have hb0 : (hldE W S ⟨k, a, b, n, m, g, ng⟩ x != 0) = false := by simp [he]
      obtain ⟨f1, f2, f3⟩ := hldE_facts he
      obtain ⟨W', S', rfl, rfl, hW, hW4, hS, hS10⟩ := lockOk_nat f1
      obtain ⟨hxl, hxs⟩ := codeB_facts (by omega) (by omega) f3
      have hl4 : x.length ≤ 4 := by omega
      have hsym : Sym x W' := fun i hi => by have := hxs i (by omega); omega
      have HE := Lib.hid he
      have HB := Lib.hid (show hldB W' S' ⟨k, a, b, n, m, g, ng⟩ x = holdB W' ⟨k, a, b, n, m, g, ng⟩ x by rw [hldB, he]; rfl)
      have H1 := Lib.hid f1
      have H2 := Lib.hid f2
      have H3 := Lib.hid hsym
      clear he f1 f2 f3 hxl hxs hsym
      go_wp2
      go_region_held3 (fun w' => Below wc.heap.size wc w' ∧ (∀ b o, b < wc.heap.size → w'.cell? ⟨b, o, none⟩ = wc.cell? ⟨b, o, none⟩))
        (first | exact keptS_drew _ | exact keptS_call (by assumption) hb | exact keptS_alloc (by assumption) _ | assumption)
        (first
          | (go_at_call 69; go_must (refine (rowOf_any _ _ _ _ ?_ ?_).mono ?_); go_must (exact kept_ints (by assumption) hx2); go_must (exact hl4); rintro e w' ⟨rfl, hb⟩)
          | (go_at_call 68; go_must (refine (holds_any W' S' H1.out ⟨k, a, b, n, m, g, ng⟩ H2.out x H3.out Ag cap _ ?_).mono ?_); go_must (exact kept_ints (by assumption) hg2); rintro e w' ⟨rfl, hb⟩))
      all_goals
        go_wp2
        go_ret2
        refine ⟨by rw [HB.out, HE.out]; rfl, hbc.trans (Below.mono (And.left (by assumption : KeptS wc _)) (by omega))⟩
    · have hb0 : (hldE W S ⟨k, a, b, n, m, g, ng⟩ x != 0) = true := by simpa using he
      have HB := Lib.hid (show hldB W S ⟨k, a, b, n, m, g, ng⟩ x = false by rw [hldB, decide_eq_false he]; rfl)
      clear he
      go_wp2
      go_ret2
      exact ⟨by rw [HB.out]; rfl, hbc⟩

set_option maxRecDepth 100000 in
set_option maxHeartbeats 2000000 in
theorem rHolds_any (W S : Int) (cl : Cl) (Ag A2 : Option Addr) (cap k2 : Nat) (x : List Int) (w : World) (hg : IntsR w w.heap.size Ag cl.guess) (lg : cl.guess.length ≤ maxLen) (hx : IntsR w w.heap.size A2 x) (lx : x.length ≤ maxLen) :
    Calls Tryd.prog 26 #[lockV W S, clV cl Ag cap, .slice A2 x.length k2] w fun e w' => e = .returned (.tuple #[.bool (hldB W S cl x), I (hldE W S cl x)]) ∧ Below w.heap.size w w' := by
  obtain ⟨k, a, b, n, m, g, ng⟩ := cl
  go_enter Tryd.func26, Tryd.ntmps26
  go_upto_region 1 with fail
  obtain ⟨w1, hw1⟩ : ∃ w1, w1 = (w.alloc (.cells #[I W, I S] 23)).alloc (.cells #[I k, I a, I b, I n, I m, .slice Ag g.length cap, .bool ng] 26) := ⟨_, rfl⟩
  rw [← hw1]
  have l0 : w1.cell? ⟨w.heap.size, 0, none⟩ = some (I W) := by rw [hw1]; exact (World.cell?_alloc_lt _ _ _ (by simp)).trans (alloc_cell _ _ _ 0)
  have l1 : w1.cell? ⟨w.heap.size, 1, none⟩ = some (I S) := by rw [hw1]; exact (World.cell?_alloc_lt _ _ _ (by simp)).trans (alloc_cell _ _ _ 1)
  have bc := fun i => (by rw [hw1]; exact alloc_cell' _ _ _ _ i (by simp) : w1.cell? ⟨w.heap.size + 1, i, none⟩ = (#[I k, I a, I b, I n, I m, .slice Ag g.length cap, .bool ng] : Array Value)[i]?)
  have q0 : w1.cell? ⟨w.heap.size + 1, 0, none⟩ = some (I k) := bc 0
  have q1 : w1.cell? ⟨w.heap.size + 1, 1, none⟩ = some (I a) := bc 1
  have q2 : w1.cell? ⟨w.heap.size + 1, 2, none⟩ = some (I b) := bc 2
  have q3 : w1.cell? ⟨w.heap.size + 1, 3, none⟩ = some (I n) := bc 3
  have q4 : w1.cell? ⟨w.heap.size + 1, 4, none⟩ = some (I m) := bc 4
  have q5 : w1.cell? ⟨w.heap.size + 1, 5, none⟩ = some (.slice Ag g.length cap) := bc 5
  have q6 : w1.cell? ⟨w.heap.size + 1, 6, none⟩ = some (.bool ng) := bc 6
  have hb1 : Below w.heap.size w w1 := by rw [hw1]; exact two_boxes _ _ _
  have s0 : w.heap.size < w1.heap.size := by rw [hw1]; simp; omega
  have s1 : w.heap.size + 1 < w1.heap.size := by rw [hw1]; simp
  have hg1 := ints_call hb1 hg
  have hx1 := ints_call hb1 hx
  clear hw1 hg hx
  go_wp2_with fail
  refine (rCheckClue_any W S ⟨k, a, b, n, m, g, ng⟩ Ag cap w1 hg1 lg).mono ?_
  rintro e w2 ⟨rfl, hb2⟩
  have l0 := (hb2.cell (p := ⟨w.heap.size, 0, none⟩) s0).trans l0
  have l1 := (hb2.cell (p := ⟨w.heap.size, 1, none⟩) s0).trans l1
  have BC := Lib.hid (fun i => (hb2.cell (p := ⟨w.heap.size + 1, i, none⟩) s1).trans (bc i))
  have hg2 := ints_call hb2 hg1
  have hx2 := ints_call hb2 hx1
  have hbb2 : Below w.heap.size w w2 := hb1.trans (hb2.mono (by omega))
  have t0 : w.heap.size < w2.heap.size := by have := hb2.size; omega
  have t1 : w.heap.size + 1 < w2.heap.size := by have := hb2.size; omega
  clear hb1 hb2 hg1 hx1 bc q0 q1 q2 q3 q4 q5 q6 s0 s1
  by_cases he : rClueErr W S ⟨k, a, b, n, m, g, ng⟩ = 0
  · have hb0 : (rClueErr W S ⟨k, a, b, n, m, g, ng⟩ != 0) = false := by simp [he]
    have hE0 := (hldE_eq W S ⟨k, a, b, n, m, g, ng⟩ x).trans (if_pos he)
    clear he
    cases hp : codeB W S x
    · rw [hp] at hE0
      have HE := Lib.hid (show hldE W S ⟨k, a, b, n, m, g, ng⟩ x = 12 from hE0)
      have HB := Lib.hid (show hldB W S ⟨k, a, b, n, m, g, ng⟩ x = false by rw [hldB, hE0]; rfl)
      clear hE0
      go_wp2_with fail
      refine (isCode_any W S A2 k2 x w2 hx2 lx).mono ?_
      rintro e w3 ⟨rfl, hb3⟩
      rw [hp]
      go_wp2
      go_ret2
      exact ⟨by rw [HB.out, HE.out]; rfl, hbb2.trans (hb3.mono (by omega))⟩
    · rw [hp] at hE0
      have hE : hldE W S ⟨k, a, b, n, m, g, ng⟩ x = 0 := hE0
      obtain ⟨f1, f2, f3⟩ := hldE_facts hE
      obtain ⟨hW1, hW4, hS2, hS10⟩ := lockOk_facts f1
      obtain ⟨hxl, hxs⟩ := codeB_facts (by omega) (by omega) hp
      have H1 := Lib.hid (show lockOk x.length S = true by rw [hxl]; exact f1)
      have H2 := Lib.hid (show clueB x.length S ⟨k, a, b, n, m, g, ng⟩ = true by rw [hxl]; exact f2)
      have H3 := Lib.hid (show Sym x x.length from fun i hi => by have := hxs i hi; omega)
      have HE := Lib.hid hE
      have HB := Lib.hid (show hldB W S ⟨k, a, b, n, m, g, ng⟩ x = holdB x.length ⟨k, a, b, n, m, g, ng⟩ x by rw [hldB, hE, ← hxl]; rfl)
      clear hE0 hE f1 f2 f3 hW1 hW4 hS2 hS10 hxl hxs
      go_wp2_with fail
      refine (isCode_any W S A2 k2 x w2 hx2 lx).mono ?_
      rintro e w3 ⟨rfl, hb3⟩
      rw [hp]
      clear l0 l1
      have BC := Lib.hid (fun i => (hb3.cell (p := ⟨w.heap.size + 1, i, none⟩) t1).trans (BC.out i))
      have q0 : w3.cell? ⟨w.heap.size + 1, 0, none⟩ = some (I k) := BC.out 0
      have q1 : w3.cell? ⟨w.heap.size + 1, 1, none⟩ = some (I a) := BC.out 1
      have q2 : w3.cell? ⟨w.heap.size + 1, 2, none⟩ = some (I b) := BC.out 2
      have q3 : w3.cell? ⟨w.heap.size + 1, 3, none⟩ = some (I n) := BC.out 3
      have q4 : w3.cell? ⟨w.heap.size + 1, 4, none⟩ = some (I m) := BC.out 4
      have q5 : w3.cell? ⟨w.heap.size + 1, 5, none⟩ = some (.slice Ag g.length cap) := BC.out 5
      have q6 : w3.cell? ⟨w.heap.size + 1, 6, none⟩ = some (.bool ng) := BC.out 6
      have hx3 := ints_call hb3 hx2
      have hg3 := ints_call hb3 hg2
      have hbb3 : Below w.heap.size w w3 := hbb2.trans (hb3.mono (by omega))
      have s3 : w.heap.size < w3.heap.size := by have := hb3.size; omega
      clear hb3 hx2 hg2
      go_wp2_with fail
      refine (True_any S x H1.out ⟨k, a, b, n, m, g, ng⟩ H2.out H3.out Ag A2 cap k2 w3 hg3 hx3).mono ?_
      rintro e w4 ⟨rfl, hb4⟩
      go_wp2
      go_ret2
      exact ⟨by rw [HB.out, HE.out]; rfl, hbb3.trans (hb4.mono (by omega))⟩
  · have hb0 : (rClueErr W S ⟨k, a, b, n, m, g, ng⟩ != 0) = true := by simpa using he
    have hE0 := (hldE_eq W S ⟨k, a, b, n, m, g, ng⟩ x).trans (if_neg he)
    have HE := Lib.hid hE0
    have HB := Lib.hid (show hldB W S ⟨k, a, b, n, m, g, ng⟩ x = false by rw [hldB, hE0, decide_eq_false he]; rfl)
    clear he hE0
    go_wp2
    go_ret2
    exact ⟨by rw [HB.out, HE.out]; rfl, hbb2⟩
end Go.Proofs.YthegmomjfbcabaaDoor
