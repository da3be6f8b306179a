/-
  CONTRACT: Escape. (Written by gen/gen_mazu.py.)
-/
import Derived.Test.YtfjincdlenneaaaPzMazL
import Derived.Test.YtfjincdlenneaaaPzMazT
namespace Go.Proofs.Ytfjincdlenneaaa
open Go.RowKit Go.Shelf
/-- what Escape returns -/
noncomputable def escN (W H fr tt : Int) (n : Nat) (wall : Nat → Bool) : Option (List Int) := if mazB W H fr tt n wall then escO W.toNat H.toNat wall fr.toNat tt.toNat else none
noncomputable def escL (W H fr tt : Int) (n : Nat) (wall : Nat → Bool) : List Int := (escN W H fr tt n wall).getD []
noncomputable def escE (W H fr tt : Int) (n : Nat) (wall : Nat → Bool) : Int := if mazB W H fr tt n wall then (if (escN W H fr tt n wall).isSome then 0 else 3) else 30
theorem SlcR.ints {w : World} {v : Value} {p : List Int} (h : SlcR w v p) : ∃ A c, v = .slice A p.length c ∧ IntsR w w.heap.size A p := by
  rcases h with ⟨rfl, rfl⟩ | ⟨ad, cp, rfl, _, hi⟩
  · exact ⟨none, 0, rfl, IntsR.nil⟩
  · exact ⟨some ad, cp, rfl, hi⟩
set_option maxRecDepth 100000 in
set_option maxHeartbeats 4000000 in
theorem Escape_any (W H fr tt : Int) (A : Option Addr) (n cap : Nat) (wall : Nat → Bool) (w : World) (hx : BoosR w w.heap.size A wall n) :
    Calls Try.prog 42 #[.agg #[I W, I H, .slice A n cap, I fr, I tt]] w fun e w' => ∃ A' c', e = .returned (.tuple #[.slice A' (escL W H fr tt n wall).length c', I (escE W H fr tt n wall)]) ∧ IntsR w' w'.heap.size A' (escL W H fr tt n wall) ∧ Below w.heap.size w w' := by
  obtain ⟨wa, ha, sa, ya, ba⟩ := one_box w (.cells #[I W, I H, .slice A n cap, I fr, I tt] 52)
  have f0 : wa.cell? ⟨w.heap.size, 0, none⟩ = some (I W) := cell_of_row wa _ 0 _ _ _ ya
  have f1 : wa.cell? ⟨w.heap.size, 1, none⟩ = some (I H) := cell_of_row wa _ 1 _ _ _ ya
  have f2 : wa.cell? ⟨w.heap.size, 2, none⟩ = some (.slice A n cap) := cell_of_row wa _ 2 _ _ _ ya
  have f3 : wa.cell? ⟨w.heap.size, 3, none⟩ = some (I fr) := cell_of_row wa _ 3 _ _ _ ya
  have f4 : wa.cell? ⟨w.heap.size, 4, none⟩ = some (I tt) := cell_of_row wa _ 4 _ _ _ ya
  have hx1 := boos_call ba hx
  obtain ⟨E, hE⟩ : ∃ E : Int, E = if mazB W H fr tt n wall then 0 else 30 := ⟨_, rfl⟩
  have C0 : ∀ V, BoosR V V.heap.size A wall n → Calls Try.prog 105 #[mazW W H fr tt A n cap] V fun e w' => e = .returned (I E) ∧ Below V.heap.size V w' := fun V h => by rw [hE]; exact mcheck_any _ _ _ _ _ _ _ _ V h
  have HEE := Lib.hid hE
  clear ya hx hE
  go_enter Try.func42, Try.ntmps42
  go_upto_region 1 with fail
  rw [← ha]
  clear ha
  go_wp2_with fail
  refine (mazeOf_any W H fr tt A n cap wa).mono ?_
  rintro e w2 ⟨rfl, hb2⟩
  go_upto_region 2 with fail
  obtain ⟨w3, hw3, hs3, r3, hb3⟩ := one_box w2 (.cells #[I W, I H, I fr, I tt, .slice A n cap] 117)
  rw [← hw3]
  have hx3 := boos_call hb3 (boos_call hb2 hx1)
  have hB3 : Below w.heap.size w w3 := ba.trans ((hb2.mono (by omega)).trans (hb3.mono (by have := hb2.size; omega)))
  obtain ⟨g, hg⟩ : ∃ g, g = w2.heap.size := ⟨_, rfl⟩
  rw [← hg] at r3 hs3
  rw [← hg]
  have hgs : g < w3.heap.size := by omega
  have p0 : w3.cell? ⟨g, 0, none⟩ = some (I W) := cell_of_row w3 _ 0 _ _ _ r3
  have p1 : w3.cell? ⟨g, 1, none⟩ = some (I H) := cell_of_row w3 _ 1 _ _ _ r3
  have p2 : w3.cell? ⟨g, 2, none⟩ = some (I fr) := cell_of_row w3 _ 2 _ _ _ r3
  have p3 : w3.cell? ⟨g, 3, none⟩ = some (I tt) := cell_of_row w3 _ 3 _ _ _ r3
  have p4 : w3.cell? ⟨g, 4, none⟩ = some (.slice A n cap) := cell_of_row w3 _ 4 _ _ _ r3
  have R3 := Lib.hid r3
  clear hw3 hs3 r3 hb3 hb2 hg f0 f1 f2 f3 f4 hx1 ba sa
  go_wp2_with fail
  refine (C0 w3 hx3).mono ?_
  rintro e w7 ⟨rfl, hb4⟩
  have hx7 := boos_call hb4 hx3
  have hB7 := hB3.trans (hb4.mono hB3.size)
  have R7 := Lib.hid ((hb4.block g hgs).trans R3.out)
  have hgs7 : g < w7.heap.size := by have := hb4.size; omega
  clear p0 p1 p2 p3 p4 hb4 hx3 hB3 R3 hgs C0
  by_cases hE0 : E = 0
  · subst hE0
    have hok : mazB W H fr tt n wall = true := by
      have := HEE.out
      cases hm : mazB W H fr tt n wall
      · rw [hm] at this; simp at this
      · rfl
    have HK := Lib.hid hok
    obtain ⟨W', H', f, t, rfl, rfl, rfl, rfl, h1, h2, h3, h4, hn, hn9, hf, ht, hwf, hwt⟩ := maz_nat hok
    have HN := Lib.hid hn
    have ht9 : t ≤ 1000 := by omega
    have r7 := R7.out
    have p0 : w7.cell? ⟨g, 0, none⟩ = some (I W') := cell_of_row w7 _ 0 _ _ _ r7
    have p1 : w7.cell? ⟨g, 1, none⟩ = some (I H') := cell_of_row w7 _ 1 _ _ _ r7
    have p2 : w7.cell? ⟨g, 2, none⟩ = some (I f) := cell_of_row w7 _ 2 _ _ _ r7
    have p3 : w7.cell? ⟨g, 3, none⟩ = some (I t) := cell_of_row w7 _ 3 _ _ _ r7
    have p4 : w7.cell? ⟨g, 4, none⟩ = some (.slice A n cap) := cell_of_row w7 _ 4 _ _ _ r7
    have C1 := fun (V : World) (hV : KeptS w7 V) => routes_map W' H' f n f t A cap wall V h1 h2 h4 HN.out hn9 hf hwf (kept_boos hV hx7)
    have HO := Lib.hid (show escN W' H' f t n wall = escO W' H' wall f t by rw [escN, HK.out]; rfl)
    clear r7 hok hn hwt
    go_upto_region 5 with fail
    go_cut [2, 6] from 14 to 25 (fun s2 s6 wx => s6 = .bool (escO W' H' wall f t).isSome ∧ SlcR wx s2 ((escO W' H' wall f t).getD []) ∧ KeptS w7 wx)
    case first =>
      refine wp_region_inv (by kernel_rfl) (fun L a w' => L.size = 14 ∧ ∃ u15 u16 u17 u18 u19 u20 u21 u22 u23 u14 u24 u25 u2 u6 : Value, a = { tmps := #[.agg #[I W', I H', .slice A n cap, I f, I t], .pointer (some ⟨w.heap.size, 0, none⟩), u2, .int .i64 0, .pointer (some ⟨g, 0, none⟩), I 0, u6, .agg #[I W', I H', .slice A n cap, I f, I t], mazW W' H' f t A n cap, mazW W' H' f t A n cap, I 0, I 0, .bool false, undef, u14, u15, u16, u17, u18, u19, u20, u21, u22, u23, u24, u25, undef, undef, undef], defers := [] } ∧ Below w7.heap.size w7 w' ∧ (L.getD 0 false = true → u15 = mazV W' H' f t A n cap) ∧ (L.getD 1 false = true → u16 = .pointer (some ⟨g, 0, none⟩)) ∧ (L.getD 2 false = true → u17 = .pointer (some ⟨g, 2, none⟩)) ∧ (L.getD 3 false = true → u18 = I f) ∧ (L.getD 4 false = true → MapR W' H' wall f w' u19) ∧ (L.getD 5 false = true → u20 = .pointer (some ⟨g, 0, none⟩)) ∧ (L.getD 6 false = true → u21 = .pointer (some ⟨g, 3, none⟩)) ∧ (L.getD 7 false = true → u22 = I t) ∧ (L.getD 8 false = true → LookR W' H' wall f w' u23 t) ∧ (L.getD 9 false = true → LookR W' H' wall f w' u14 t) ∧ (L.getD 10 false = true → SlcR w' u24 ((escO W' H' wall f t).getD [])) ∧ (L.getD 11 false = true → u25 = .bool (escO W' H' wall f t).isSome) ∧ (L.getD 12 false = true → SlcR w' u2 ((escO W' H' wall f t).getD [])) ∧ (L.getD 13 false = true → u6 = .bool (escO W' H' wall f t).isSome)) ?_ ?_ ?_
      · exact ⟨by simp, _, _, _, _, _, _, _, _, _, _, _, _, _, _, rfl, (Below.refl _ _).drew, by simp, by simp, by simp, by simp, by simp, by simp, by simp, by simp, by simp, by simp, by simp, by simp, by simp, by simp⟩
      · rintro i L a w' ⟨hL, u15, u16, u17, u18, u19, u20, u21, u22, u23, u14, u24, u25, u2, u6, rfl, hbw', h0, h1, h2, h3, h4, h5, h6, h7, h8, h9, h10, h11, h12, h13⟩ hi
        have hcases : i = 0 ∨ i = 1 ∨ i = 2 ∨ i = 3 ∨ i = 4 ∨ i = 5 ∨ i = 6 ∨ i = 7 ∨ i = 8 ∨ i = 9 ∨ i = 10 ∨ i = 11 ∨ i = 12 ∨ i = 13 := by
          have : i < 14 := ready_lt hi
          omega
        have hc' := bcellM hbw'
        rcases hcases with rfl | rfl | rfl | rfl | rfl | rfl | rfl | rfl | rfl | rfl | rfl | rfl | rfl | rfl
        · refine wpOp_val (mazV W' H' f t A n cap) rfl (by rfl) (by go_simp) ?_
          exact ⟨by simpa using hL, _, _, _, _, _, _, _, _, _, _, _, _, _, _, rfl, hbw', fun _ => rfl, (fun h => h1 ((set_other (by decide)).symm.trans h)), (fun h => h2 ((set_other (by decide)).symm.trans h)), (fun h => h3 ((set_other (by decide)).symm.trans h)), (fun h => h4 ((set_other (by decide)).symm.trans h)), (fun h => h5 ((set_other (by decide)).symm.trans h)), (fun h => h6 ((set_other (by decide)).symm.trans h)), (fun h => h7 ((set_other (by decide)).symm.trans h)), (fun h => h8 ((set_other (by decide)).symm.trans h)), (fun h => h9 ((set_other (by decide)).symm.trans h)), (fun h => h10 ((set_other (by decide)).symm.trans h)), (fun h => h11 ((set_other (by decide)).symm.trans h)), (fun h => h12 ((set_other (by decide)).symm.trans h)), (fun h => h13 ((set_other (by decide)).symm.trans h))⟩
        · refine wpOp_val (.pointer (some ⟨g, 0, none⟩)) rfl (by rfl) (by go_simp) ?_
          exact ⟨by simpa using hL, _, _, _, _, _, _, _, _, _, _, _, _, _, _, rfl, hbw', (fun h => h0 ((set_other (by decide)).symm.trans h)), fun _ => rfl, (fun h => h2 ((set_other (by decide)).symm.trans h)), (fun h => h3 ((set_other (by decide)).symm.trans h)), (fun h => h4 ((set_other (by decide)).symm.trans h)), (fun h => h5 ((set_other (by decide)).symm.trans h)), (fun h => h6 ((set_other (by decide)).symm.trans h)), (fun h => h7 ((set_other (by decide)).symm.trans h)), (fun h => h8 ((set_other (by decide)).symm.trans h)), (fun h => h9 ((set_other (by decide)).symm.trans h)), (fun h => h10 ((set_other (by decide)).symm.trans h)), (fun h => h11 ((set_other (by decide)).symm.trans h)), (fun h => h12 ((set_other (by decide)).symm.trans h)), (fun h => h13 ((set_other (by decide)).symm.trans h))⟩
        · obtain rfl := h1 (ready_dep hi 1 (by kernel_rfl))
          refine wpOp_val (.pointer (some ⟨g, 2, none⟩)) rfl (by rfl) (by go_simp) ?_
          exact ⟨by simpa using hL, _, _, _, _, _, _, _, _, _, _, _, _, _, _, rfl, hbw', (fun h => h0 ((set_other (by decide)).symm.trans h)), (fun h => h1 ((set_other (by decide)).symm.trans h)), fun _ => rfl, (fun h => h3 ((set_other (by decide)).symm.trans h)), (fun h => h4 ((set_other (by decide)).symm.trans h)), (fun h => h5 ((set_other (by decide)).symm.trans h)), (fun h => h6 ((set_other (by decide)).symm.trans h)), (fun h => h7 ((set_other (by decide)).symm.trans h)), (fun h => h8 ((set_other (by decide)).symm.trans h)), (fun h => h9 ((set_other (by decide)).symm.trans h)), (fun h => h10 ((set_other (by decide)).symm.trans h)), (fun h => h11 ((set_other (by decide)).symm.trans h)), (fun h => h12 ((set_other (by decide)).symm.trans h)), (fun h => h13 ((set_other (by decide)).symm.trans h))⟩
        · obtain rfl := h2 (ready_dep hi 2 (by kernel_rfl))
          refine wpOp_val (I f) rfl (by rfl) (by go_simp) ?_
          exact ⟨by simpa using hL, _, _, _, _, _, _, _, _, _, _, _, _, _, _, rfl, hbw', (fun h => h0 ((set_other (by decide)).symm.trans h)), (fun h => h1 ((set_other (by decide)).symm.trans h)), (fun h => h2 ((set_other (by decide)).symm.trans h)), fun _ => rfl, (fun h => h4 ((set_other (by decide)).symm.trans h)), (fun h => h5 ((set_other (by decide)).symm.trans h)), (fun h => h6 ((set_other (by decide)).symm.trans h)), (fun h => h7 ((set_other (by decide)).symm.trans h)), (fun h => h8 ((set_other (by decide)).symm.trans h)), (fun h => h9 ((set_other (by decide)).symm.trans h)), (fun h => h10 ((set_other (by decide)).symm.trans h)), (fun h => h11 ((set_other (by decide)).symm.trans h)), (fun h => h12 ((set_other (by decide)).symm.trans h)), (fun h => h13 ((set_other (by decide)).symm.trans h))⟩
        · obtain rfl := h0 (ready_dep hi 0 (by kernel_rfl))
          obtain rfl := h3 (ready_dep hi 3 (by kernel_rfl))
          refine wpOp_wp rfl (by rfl) (wp_call_fns (vs := #[mazV W' H' f t A n cap, I f]) rfl (by simp [Act.eval]) (enters_of Try.func110 (by kernel_rfl) rfl) (((C1 _ (keptS_of hbw'))).mono ?_))
          rintro e w2 ⟨v, rfl, hm, -, hb⟩
          exact ⟨by simpa using hL, _, _, _, _, _, _, _, _, _, _, _, _, _, _, rfl, (hbw'.trans (hb.mono hbw'.size)), (fun h => h0 ((set_other (by decide)).symm.trans h)), (fun h => h1 ((set_other (by decide)).symm.trans h)), (fun h => h2 ((set_other (by decide)).symm.trans h)), (fun h => h3 ((set_other (by decide)).symm.trans h)), fun _ => hm, (fun h => h5 ((set_other (by decide)).symm.trans h)), (fun h => h6 ((set_other (by decide)).symm.trans h)), (fun h => h7 ((set_other (by decide)).symm.trans h)), (fun h => (h8 ((set_other (by decide)).symm.trans h)).call hb), (fun h => (h9 ((set_other (by decide)).symm.trans h)).call hb), (fun h => (h10 ((set_other (by decide)).symm.trans h)).call hb), (fun h => h11 ((set_other (by decide)).symm.trans h)), (fun h => (h12 ((set_other (by decide)).symm.trans h)).call hb), (fun h => h13 ((set_other (by decide)).symm.trans h))⟩
        · refine wpOp_val (.pointer (some ⟨g, 0, none⟩)) rfl (by rfl) (by go_simp) ?_
          exact ⟨by simpa using hL, _, _, _, _, _, _, _, _, _, _, _, _, _, _, rfl, hbw', (fun h => h0 ((set_other (by decide)).symm.trans h)), (fun h => h1 ((set_other (by decide)).symm.trans h)), (fun h => h2 ((set_other (by decide)).symm.trans h)), (fun h => h3 ((set_other (by decide)).symm.trans h)), (fun h => h4 ((set_other (by decide)).symm.trans h)), fun _ => rfl, (fun h => h6 ((set_other (by decide)).symm.trans h)), (fun h => h7 ((set_other (by decide)).symm.trans h)), (fun h => h8 ((set_other (by decide)).symm.trans h)), (fun h => h9 ((set_other (by decide)).symm.trans h)), (fun h => h10 ((set_other (by decide)).symm.trans h)), (fun h => h11 ((set_other (by decide)).symm.trans h)), (fun h => h12 ((set_other (by decide)).symm.trans h)), (fun h => h13 ((set_other (by decide)).symm.trans h))⟩
        · obtain rfl := h5 (ready_dep hi 5 (by kernel_rfl))
          refine wpOp_val (.pointer (some ⟨g, 3, none⟩)) rfl (by rfl) (by go_simp) ?_
          exact ⟨by simpa using hL, _, _, _, _, _, _, _, _, _, _, _, _, _, _, rfl, hbw', (fun h => h0 ((set_other (by decide)).symm.trans h)), (fun h => h1 ((set_other (by decide)).symm.trans h)), (fun h => h2 ((set_other (by decide)).symm.trans h)), (fun h => h3 ((set_other (by decide)).symm.trans h)), (fun h => h4 ((set_other (by decide)).symm.trans h)), (fun h => h5 ((set_other (by decide)).symm.trans h)), fun _ => rfl, (fun h => h7 ((set_other (by decide)).symm.trans h)), (fun h => h8 ((set_other (by decide)).symm.trans h)), (fun h => h9 ((set_other (by decide)).symm.trans h)), (fun h => h10 ((set_other (by decide)).symm.trans h)), (fun h => h11 ((set_other (by decide)).symm.trans h)), (fun h => h12 ((set_other (by decide)).symm.trans h)), (fun h => h13 ((set_other (by decide)).symm.trans h))⟩
        · obtain rfl := h6 (ready_dep hi 6 (by kernel_rfl))
          refine wpOp_val (I t) rfl (by rfl) (by go_simp) ?_
          exact ⟨by simpa using hL, _, _, _, _, _, _, _, _, _, _, _, _, _, _, rfl, hbw', (fun h => h0 ((set_other (by decide)).symm.trans h)), (fun h => h1 ((set_other (by decide)).symm.trans h)), (fun h => h2 ((set_other (by decide)).symm.trans h)), (fun h => h3 ((set_other (by decide)).symm.trans h)), (fun h => h4 ((set_other (by decide)).symm.trans h)), (fun h => h5 ((set_other (by decide)).symm.trans h)), (fun h => h6 ((set_other (by decide)).symm.trans h)), fun _ => rfl, (fun h => h8 ((set_other (by decide)).symm.trans h)), (fun h => h9 ((set_other (by decide)).symm.trans h)), (fun h => h10 ((set_other (by decide)).symm.trans h)), (fun h => h11 ((set_other (by decide)).symm.trans h)), (fun h => h12 ((set_other (by decide)).symm.trans h)), (fun h => h13 ((set_other (by decide)).symm.trans h))⟩
        · obtain rfl := h7 (ready_dep hi 7 (by kernel_rfl))
          obtain ⟨x, hrun, hsl⟩ := (h4 (ready_dep hi 4 (by kernel_rfl))).look ht9
          refine wpOp_val (.tuple #[x, .bool (escO W' H' wall f t).isSome]) rfl (by rfl) (by go_simp) ?_
          exact ⟨by simpa using hL, _, _, _, _, _, _, _, _, _, _, _, _, _, _, rfl, hbw', (fun h => h0 ((set_other (by decide)).symm.trans h)), (fun h => h1 ((set_other (by decide)).symm.trans h)), (fun h => h2 ((set_other (by decide)).symm.trans h)), (fun h => h3 ((set_other (by decide)).symm.trans h)), (fun h => h4 ((set_other (by decide)).symm.trans h)), (fun h => h5 ((set_other (by decide)).symm.trans h)), (fun h => h6 ((set_other (by decide)).symm.trans h)), (fun h => h7 ((set_other (by decide)).symm.trans h)), fun _ => ⟨x, rfl, hsl⟩, (fun h => h9 ((set_other (by decide)).symm.trans h)), (fun h => h10 ((set_other (by decide)).symm.trans h)), (fun h => h11 ((set_other (by decide)).symm.trans h)), (fun h => h12 ((set_other (by decide)).symm.trans h)), (fun h => h13 ((set_other (by decide)).symm.trans h))⟩
        · obtain ⟨x, rfl, hsl⟩ := h8 (ready_dep hi 8 (by kernel_rfl))
          refine wpOp_val (.tuple #[x, .bool (escO W' H' wall f t).isSome]) rfl (by rfl) (by go_simp) ?_
          exact ⟨by simpa using hL, _, _, _, _, _, _, _, _, _, _, _, _, _, _, rfl, hbw', (fun h => h0 ((set_other (by decide)).symm.trans h)), (fun h => h1 ((set_other (by decide)).symm.trans h)), (fun h => h2 ((set_other (by decide)).symm.trans h)), (fun h => h3 ((set_other (by decide)).symm.trans h)), (fun h => h4 ((set_other (by decide)).symm.trans h)), (fun h => h5 ((set_other (by decide)).symm.trans h)), (fun h => h6 ((set_other (by decide)).symm.trans h)), (fun h => h7 ((set_other (by decide)).symm.trans h)), (fun h => h8 ((set_other (by decide)).symm.trans h)), fun _ => ⟨x, rfl, hsl⟩, (fun h => h10 ((set_other (by decide)).symm.trans h)), (fun h => h11 ((set_other (by decide)).symm.trans h)), (fun h => h12 ((set_other (by decide)).symm.trans h)), (fun h => h13 ((set_other (by decide)).symm.trans h))⟩
        · obtain ⟨x, rfl, hsl⟩ := h9 (ready_dep hi 9 (by kernel_rfl))
          refine wpOp_val (x) rfl (by rfl) (by go_simp) ?_
          exact ⟨by simpa using hL, _, _, _, _, _, _, _, _, _, _, _, _, _, _, rfl, hbw', (fun h => h0 ((set_other (by decide)).symm.trans h)), (fun h => h1 ((set_other (by decide)).symm.trans h)), (fun h => h2 ((set_other (by decide)).symm.trans h)), (fun h => h3 ((set_other (by decide)).symm.trans h)), (fun h => h4 ((set_other (by decide)).symm.trans h)), (fun h => h5 ((set_other (by decide)).symm.trans h)), (fun h => h6 ((set_other (by decide)).symm.trans h)), (fun h => h7 ((set_other (by decide)).symm.trans h)), (fun h => h8 ((set_other (by decide)).symm.trans h)), (fun h => h9 ((set_other (by decide)).symm.trans h)), fun _ => hsl, (fun h => h11 ((set_other (by decide)).symm.trans h)), (fun h => h12 ((set_other (by decide)).symm.trans h)), (fun h => h13 ((set_other (by decide)).symm.trans h))⟩
        · obtain ⟨x, rfl, hsl⟩ := h9 (ready_dep hi 9 (by kernel_rfl))
          refine wpOp_val (.bool (escO W' H' wall f t).isSome) rfl (by rfl) (by go_simp) ?_
          exact ⟨by simpa using hL, _, _, _, _, _, _, _, _, _, _, _, _, _, _, rfl, hbw', (fun h => h0 ((set_other (by decide)).symm.trans h)), (fun h => h1 ((set_other (by decide)).symm.trans h)), (fun h => h2 ((set_other (by decide)).symm.trans h)), (fun h => h3 ((set_other (by decide)).symm.trans h)), (fun h => h4 ((set_other (by decide)).symm.trans h)), (fun h => h5 ((set_other (by decide)).symm.trans h)), (fun h => h6 ((set_other (by decide)).symm.trans h)), (fun h => h7 ((set_other (by decide)).symm.trans h)), (fun h => h8 ((set_other (by decide)).symm.trans h)), (fun h => h9 ((set_other (by decide)).symm.trans h)), (fun h => h10 ((set_other (by decide)).symm.trans h)), fun _ => rfl, (fun h => h12 ((set_other (by decide)).symm.trans h)), (fun h => h13 ((set_other (by decide)).symm.trans h))⟩
        · have hsl := h10 (ready_dep hi 10 (by kernel_rfl))
          refine wpOp_val (u24) rfl (by rfl) (by go_simp) ?_
          exact ⟨by simpa using hL, _, _, _, _, _, _, _, _, _, _, _, _, _, _, rfl, hbw', (fun h => h0 ((set_other (by decide)).symm.trans h)), (fun h => h1 ((set_other (by decide)).symm.trans h)), (fun h => h2 ((set_other (by decide)).symm.trans h)), (fun h => h3 ((set_other (by decide)).symm.trans h)), (fun h => h4 ((set_other (by decide)).symm.trans h)), (fun h => h5 ((set_other (by decide)).symm.trans h)), (fun h => h6 ((set_other (by decide)).symm.trans h)), (fun h => h7 ((set_other (by decide)).symm.trans h)), (fun h => h8 ((set_other (by decide)).symm.trans h)), (fun h => h9 ((set_other (by decide)).symm.trans h)), (fun h => h10 ((set_other (by decide)).symm.trans h)), (fun h => h11 ((set_other (by decide)).symm.trans h)), fun _ => hsl, (fun h => h13 ((set_other (by decide)).symm.trans h))⟩
        · obtain rfl := h11 (ready_dep hi 11 (by kernel_rfl))
          refine wpOp_val (.bool (escO W' H' wall f t).isSome) rfl (by rfl) (by go_simp) ?_
          exact ⟨by simpa using hL, _, _, _, _, _, _, _, _, _, _, _, _, _, _, rfl, hbw', (fun h => h0 ((set_other (by decide)).symm.trans h)), (fun h => h1 ((set_other (by decide)).symm.trans h)), (fun h => h2 ((set_other (by decide)).symm.trans h)), (fun h => h3 ((set_other (by decide)).symm.trans h)), (fun h => h4 ((set_other (by decide)).symm.trans h)), (fun h => h5 ((set_other (by decide)).symm.trans h)), (fun h => h6 ((set_other (by decide)).symm.trans h)), (fun h => h7 ((set_other (by decide)).symm.trans h)), (fun h => h8 ((set_other (by decide)).symm.trans h)), (fun h => h9 ((set_other (by decide)).symm.trans h)), (fun h => h10 ((set_other (by decide)).symm.trans h)), (fun h => h11 ((set_other (by decide)).symm.trans h)), (fun h => h12 ((set_other (by decide)).symm.trans h)), fun _ => rfl⟩
      · rintro L a w' ⟨hL, u15, u16, u17, u18, u19, u20, u21, u22, u23, u14, u24, u25, u2, u6, rfl, hbw', h0, h1, h2, h3, h4, h5, h6, h7, h8, h9, h10, h11, h12, h13⟩ hr
        have hall := all_listed hL (by kernel_rfl) hr
        obtain rfl := h0 (hall 0 (by decide))
        obtain rfl := h1 (hall 1 (by decide))
        obtain rfl := h2 (hall 2 (by decide))
        obtain rfl := h3 (hall 3 (by decide))
        have g4 := h4 (hall 4 (by decide))
        obtain rfl := h5 (hall 5 (by decide))
        obtain rfl := h6 (hall 6 (by decide))
        obtain rfl := h7 (hall 7 (by decide))
        have g8 := h8 (hall 8 (by decide))
        have g9 := h9 (hall 9 (by decide))
        have g10 := h10 (hall 10 (by decide))
        obtain rfl := h11 (hall 11 (by decide))
        have g12 := h12 (hall 12 (by decide))
        obtain rfl := h13 (hall 13 (by decide))
        clear hall hr hL
        try dsimp only
        go_wp2_with fail
        go_meet
        exact ⟨rfl, g12, keptS_of hbw'⟩
    case rest =>
      obtain ⟨rfl, hsl, hkk⟩ := hcut
      have HKK := Lib.hid hkk.1
      obtain ⟨A', c', e', hi⟩ := hsl.ints
      subst e'
      have HI := Lib.hid hi
      clear hkk p0 p1 p2 p3 p4 C1 hsl hi
      have HL := Lib.hid (show escL W' H' f t n wall = (escO W' H' wall f t).getD [] by rw [escL, HO.out])
      have HE := Lib.hid (show escE W' H' f t n wall = if (escO W' H' wall f t).isSome then 0 else 3 by rw [escE, HK.out, HO.out]; rfl)
      generalize escO W' H' wall f t = o at *
      obtain ⟨X, hX⟩ : ∃ X : Int, X = if o.isSome then 0 else 3 := ⟨_, rfl⟩
      have hu : ∀ V, Calls Try.prog 64 #[.bool o.isSome, I 3] V fun e w' => e = .returned (I X) ∧ w' = V := fun V => by rw [hX]; exact unless_any _ _ V
      rw [← hX] at HE
      generalize o.isSome = b at *
      clear hX
      go_wp2_with fail
      refine (hu _).mono ?_
      rintro e w9 ⟨rfl, hww⟩
      rw [hww]
      clear hww
      go_wp2
      go_ret2
      exact ⟨A', c', by rw [HL.out, HE.out]; rfl, by rw [HL.out]; exact HI.out, hB7.trans (HKK.out.mono hB7.size)⟩
  · have HNB := Lib.hid (show mazB W H fr tt n wall = false by
      have := HEE.out
      cases hm : mazB W H fr tt n wall
      · rfl
      · rw [hm] at this; exact absurd this hE0)
    have HV := Lib.hid (show escL W H fr tt n wall = [] by rw [escL, escN, HNB.out]; rfl)
    have HE := Lib.hid (show escE W H fr tt n wall = E by rw [escE, HEE.out, HNB.out]; rfl)
    have hne : (E != 0) = true := by simpa using hE0
    go_wp2
    go_ret2
    exact ⟨none, 0, by rw [HV.out, HE.out]; rfl, by rw [HV.out]; exact IntsR.nil, hB7⟩
end Go.Proofs.Ytfjincdlenneaaa
