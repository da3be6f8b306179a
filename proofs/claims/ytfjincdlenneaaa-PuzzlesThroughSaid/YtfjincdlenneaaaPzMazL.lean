/-
  CONTRACTS: what a map of routes gives; leads. (Written by gen/gen_mazl.py.)
-/
import Derived.Test.YtfjincdlenneaaaPzMazS
import Derived.Test.YtfjincdlenneaaaPzMazE
import Derived.Test.YtfjincdlenneaaaPzMazD
namespace Go.Proofs.Ytfjincdlenneaaa
open Go.RowKit Go.Shelf
/-- a map with the best lists of moves to all cells -/
def MapR (W H : Nat) (wall : Nat → Bool) (fr : Nat) (w : World) (v : Value) : Prop :=
  ∃ B n f gq, v = .map (some B) ∧ MapF w B n f ∧ RowsF w B gq f (fun t => escO W H wall fr t)
theorem MapR.call {W H : Nat} {wall : Nat → Bool} {fr : Nat} {w w' : World} {v : Value} (h : MapR W H wall fr w v) (hb : Below w.heap.size w w') : MapR W H wall fr w' v := by
  obtain ⟨B, n, f, gq, rfl, h1, h2⟩ := h
  exact ⟨B, n, f, gq, rfl, h1.below hb h1.lt, h2.call hb⟩
theorem routes_map (W H fr N : Nat) (fr' tt : Int) (A : Option Addr) (cap : Nat) (wall : Nat → Bool) (w : World) (hW : 1 ≤ W) (hW9 : W ≤ 64) (hH : H ≤ 64) (hN : N = W * H) (hN9 : N ≤ 64) (hfr : fr < N) (hwf : wall fr = false) (hx : BoosR w w.heap.size A wall N) :
    Calls Try.prog 110 #[mazV W H fr' tt A N cap, I fr] w fun e w' => ∃ v, e = .returned v ∧ MapR W H wall fr w' v ∧ (∀ t p, escO W H wall fr t = some p → p.length ≤ 64) ∧ Below w.heap.size w w' := by
  refine (routes_any W H fr N fr' tt A cap wall w hW hW9 hH hN hN9 hfr hwf hx).mono ?_
  rintro e w' ⟨B, n, f, R, gq, rfl, h1, h2, h3, h4⟩
  have e1 := h3.esc
  refine ⟨_, rfl, ⟨B, n, f, gq, rfl, h1, by rw [← e1]; exact h2⟩, fun t p ht => ?_, h4⟩
  have := h3.len t p (by rw [e1]; exact ht)
  omega
/-- what a look-up gives -/
def LookR (W H : Nat) (wall : Nat → Bool) (fr : Nat) (w : World) (v : Value) (t : Nat) : Prop :=
  ∃ x, v = .tuple #[x, .bool (escO W H wall fr t).isSome] ∧ SlcR w x ((escO W H wall fr t).getD [])
theorem LookR.call {W H : Nat} {wall : Nat → Bool} {fr t : Nat} {w w' : World} {v : Value} (h : LookR W H wall fr w v t) (hb : Below w.heap.size w w') : LookR W H wall fr w' v t := by
  obtain ⟨x, h1, h2⟩ := h
  exact ⟨x, h1, h2.call hb⟩
theorem MapF.run_ok {w : World} {B n : Nat} {f : Nat → Option Value} (h : MapF w B n f) {c : Nat} (hc : c ≤ 1000) : (Instr.lookup 122 (.map (some B)) (I c) true).run Try.prog w = .ok (.tuple #[(f c).getD nilS, .bool (f c).isSome]) w := by
  obtain ⟨D, h1, h2⟩ := h
  obtain ⟨v, ps, hrun, hv⟩ := h1.look_ok keyLaw Try.underlying122 (zeroSl w) (zd := .held nilS) (zp := []) rfl (keyAt c hc)
  have h3 := h2 c hc
  rw [h3.2] at hv
  have e : v = (f c).getD nilS := by
    have := congrArg (Option.map Prod.fst) hv
    simpa [heldR] using this
  rw [hrun, e, h3.1]
theorem MapR.look {W H : Nat} {wall : Nat → Bool} {fr t : Nat} {w : World} {v : Value} (h : MapR W H wall fr w v) (ht : t ≤ 1000) : ∃ x, (Instr.lookup 122 v (I t) true).run Try.prog w = .ok (.tuple #[x, .bool (escO W H wall fr t).isSome]) w ∧ SlcR w x ((escO W H wall fr t).getD []) := by
  obtain ⟨B, n, f, gq, rfl, h1, h2⟩ := h
  have hr := h1.run_ok ht
  cases he : escO W H wall fr t with
  | none =>
    rw [h2.non t he] at hr
    exact ⟨nilS, hr, .inl ⟨rfl, rfl⟩⟩
  | some p =>
    obtain ⟨x, h3, h4, _⟩ := h2.som t p he
    rw [h3] at hr
    exact ⟨x, hr, h4⟩
set_option maxRecDepth 100000 in
set_option maxHeartbeats 4000000 in
theorem leads_any (W H c t n : Nat) (fr : Int) (A : Option Addr) (cap : Nat) (wall : Nat → Bool) (w : World) (hW : 1 ≤ W) (hW9 : W ≤ 64) (hH : H ≤ 64) (hn : n = W * H) (hn9 : n ≤ 64) (hc : c < n) (hwc : wall c = false) (ht : t < n) (hx : BoosR w w.heap.size A wall n) :
    Calls Try.prog 142 #[mazV W H fr t A n cap, I c] w fun e w' => e = .returned (.bool (escO W H wall c t).isSome) ∧ Below w.heap.size w w' := by
  obtain ⟨w1, hw1, hs1, y0, hb1⟩ := one_box w (.cells #[I W, I H, I fr, I t, .slice A n cap] 117)
  have f0 : w1.cell? ⟨w.heap.size, 0, none⟩ = some (I W) := cell_of_row w1 _ 0 _ _ _ y0
  have f1 : w1.cell? ⟨w.heap.size, 1, none⟩ = some (I H) := cell_of_row w1 _ 1 _ _ _ y0
  have f2 : w1.cell? ⟨w.heap.size, 2, none⟩ = some (I fr) := cell_of_row w1 _ 2 _ _ _ y0
  have f3 : w1.cell? ⟨w.heap.size, 3, none⟩ = some (I t) := cell_of_row w1 _ 3 _ _ _ y0
  have f4 : w1.cell? ⟨w.heap.size, 4, none⟩ = some (.slice A n cap) := cell_of_row w1 _ 4 _ _ _ y0
  have s0 : w.heap.size < w1.heap.size := by omega
  have hx1 := boos_call hb1 hx
  have ht9 : t ≤ 1000 := by omega
  have HN := Lib.hid hn
  have C1 := fun (V : World) (hV : KeptS w1 V) => routes_map W H c n fr t A cap wall V hW hW9 hH HN.out hn9 hc hwc (kept_boos hV hx1)
  clear y0 hs1 hn hx
  go_enter Try.func142, Try.ntmps142
  go_upto_region 1 with fail
  rw [← hw1]
  clear hw1
  go_cut [6] from 5 to 16 (fun s6 wx => s6 = .bool (escO W H wall c t).isSome ∧ KeptS w1 wx)
  case first =>
    refine wp_region_inv (by kernel_rfl) (fun L a w' => L.size = 12 ∧ ∃ u8 u9 u10 u11 u12 u13 u14 u7 u15 u16 u5 u6 : Value, a = { tmps := #[mazV W H fr t A n cap, I c, .pointer (some ⟨w.heap.size, 0, none⟩), undef, .bool false, u5, u6, u7, u8, u9, u10, u11, u12, u13, u14, u15, u16, undef], defers := [] } ∧ Below w1.heap.size w1 w' ∧ (L.getD 0 false = true → u8 = mazV W H fr t A n cap) ∧ (L.getD 1 false = true → u9 = I c) ∧ (L.getD 2 false = true → MapR W H wall c w' u10) ∧ (L.getD 3 false = true → u11 = .pointer (some ⟨w.heap.size, 0, none⟩)) ∧ (L.getD 4 false = true → u12 = .pointer (some ⟨w.heap.size, 3, none⟩)) ∧ (L.getD 5 false = true → u13 = I t) ∧ (L.getD 6 false = true → LookR W H wall c w' u14 t) ∧ (L.getD 7 false = true → LookR W H wall c w' u7 t) ∧ (L.getD 8 false = true → True) ∧ (L.getD 9 false = true → u16 = .bool (escO W H wall c t).isSome) ∧ (L.getD 10 false = true → True) ∧ (L.getD 11 false = true → u6 = .bool (escO W H wall c t).isSome)) ?_ ?_ ?_
    · exact ⟨by simp, _, _, _, _, _, _, _, _, _, _, _, _, rfl, (Below.refl _ _).drew, by simp, by simp, by simp, by simp, by simp, by simp, by simp, by simp, by simp, by simp, by simp, by simp⟩
    · rintro i L a w' ⟨hL, u8, u9, u10, u11, u12, u13, u14, u7, u15, u16, u5, u6, rfl, hbw', h0, h1, h2, h3, h4, h5, h6, h7, h8, h9, h10, h11⟩ hi
      have hcases : i = 0 ∨ i = 1 ∨ i = 2 ∨ i = 3 ∨ i = 4 ∨ i = 5 ∨ i = 6 ∨ i = 7 ∨ i = 8 ∨ i = 9 ∨ i = 10 ∨ i = 11 := by
        have : i < 12 := ready_lt hi
        omega
      have hc' := bcellM hbw'
      rcases hcases with rfl | rfl | rfl | rfl | rfl | rfl | rfl | rfl | rfl | rfl | rfl | rfl
      · refine wpOp_val (mazV W H fr t A n cap) rfl (by rfl) (by go_simp) ?_
        exact ⟨by simpa using hL, _, _, _, _, _, _, _, _, _, _, _, _, rfl, hbw', fun _ => rfl, (fun h => h1 ((set_other (by decide)).symm.trans h)), (fun h => h2 ((set_other (by decide)).symm.trans h)), (fun h => h3 ((set_other (by decide)).symm.trans h)), (fun h => h4 ((set_other (by decide)).symm.trans h)), (fun h => h5 ((set_other (by decide)).symm.trans h)), (fun h => h6 ((set_other (by decide)).symm.trans h)), (fun h => h7 ((set_other (by decide)).symm.trans h)), (fun h => h8 ((set_other (by decide)).symm.trans h)), (fun h => h9 ((set_other (by decide)).symm.trans h)), (fun h => h10 ((set_other (by decide)).symm.trans h)), (fun h => h11 ((set_other (by decide)).symm.trans h))⟩
      · refine wpOp_val (I c) rfl (by rfl) (by go_simp) ?_
        exact ⟨by simpa using hL, _, _, _, _, _, _, _, _, _, _, _, _, rfl, hbw', (fun h => h0 ((set_other (by decide)).symm.trans h)), fun _ => rfl, (fun h => h2 ((set_other (by decide)).symm.trans h)), (fun h => h3 ((set_other (by decide)).symm.trans h)), (fun h => h4 ((set_other (by decide)).symm.trans h)), (fun h => h5 ((set_other (by decide)).symm.trans h)), (fun h => h6 ((set_other (by decide)).symm.trans h)), (fun h => h7 ((set_other (by decide)).symm.trans h)), (fun h => h8 ((set_other (by decide)).symm.trans h)), (fun h => h9 ((set_other (by decide)).symm.trans h)), (fun h => h10 ((set_other (by decide)).symm.trans h)), (fun h => h11 ((set_other (by decide)).symm.trans h))⟩
      · obtain rfl := h0 (ready_dep hi 0 (by kernel_rfl))
        obtain rfl := h1 (ready_dep hi 1 (by kernel_rfl))
        refine wpOp_wp rfl (by rfl) (wp_call_fns (vs := #[mazV W H fr t A n cap, I c]) rfl (by simp [Act.eval]) (enters_of Try.func110 (by kernel_rfl) rfl) (((C1 _ (keptS_of hbw'))).mono ?_))
        rintro e w2 ⟨v, rfl, hm, -, hb⟩
        exact ⟨by simpa using hL, _, _, _, _, _, _, _, _, _, _, _, _, rfl, (hbw'.trans (hb.mono hbw'.size)), (fun h => h0 ((set_other (by decide)).symm.trans h)), (fun h => h1 ((set_other (by decide)).symm.trans h)), fun _ => hm, (fun h => h3 ((set_other (by decide)).symm.trans h)), (fun h => h4 ((set_other (by decide)).symm.trans h)), (fun h => h5 ((set_other (by decide)).symm.trans h)), (fun h => (h6 ((set_other (by decide)).symm.trans h)).call hb), (fun h => (h7 ((set_other (by decide)).symm.trans h)).call hb), (fun h => h8 ((set_other (by decide)).symm.trans h)), (fun h => h9 ((set_other (by decide)).symm.trans h)), (fun h => h10 ((set_other (by decide)).symm.trans h)), (fun h => h11 ((set_other (by decide)).symm.trans h))⟩
      · refine wpOp_val (.pointer (some ⟨w.heap.size, 0, none⟩)) rfl (by rfl) (by go_simp) ?_
        exact ⟨by simpa using hL, _, _, _, _, _, _, _, _, _, _, _, _, rfl, hbw', (fun h => h0 ((set_other (by decide)).symm.trans h)), (fun h => h1 ((set_other (by decide)).symm.trans h)), (fun h => h2 ((set_other (by decide)).symm.trans h)), fun _ => rfl, (fun h => h4 ((set_other (by decide)).symm.trans h)), (fun h => h5 ((set_other (by decide)).symm.trans h)), (fun h => h6 ((set_other (by decide)).symm.trans h)), (fun h => h7 ((set_other (by decide)).symm.trans h)), (fun h => h8 ((set_other (by decide)).symm.trans h)), (fun h => h9 ((set_other (by decide)).symm.trans h)), (fun h => h10 ((set_other (by decide)).symm.trans h)), (fun h => h11 ((set_other (by decide)).symm.trans h))⟩
      · obtain rfl := h3 (ready_dep hi 3 (by kernel_rfl))
        refine wpOp_val (.pointer (some ⟨w.heap.size, 3, none⟩)) rfl (by rfl) (by go_simp) ?_
        exact ⟨by simpa using hL, _, _, _, _, _, _, _, _, _, _, _, _, rfl, hbw', (fun h => h0 ((set_other (by decide)).symm.trans h)), (fun h => h1 ((set_other (by decide)).symm.trans h)), (fun h => h2 ((set_other (by decide)).symm.trans h)), (fun h => h3 ((set_other (by decide)).symm.trans h)), fun _ => rfl, (fun h => h5 ((set_other (by decide)).symm.trans h)), (fun h => h6 ((set_other (by decide)).symm.trans h)), (fun h => h7 ((set_other (by decide)).symm.trans h)), (fun h => h8 ((set_other (by decide)).symm.trans h)), (fun h => h9 ((set_other (by decide)).symm.trans h)), (fun h => h10 ((set_other (by decide)).symm.trans h)), (fun h => h11 ((set_other (by decide)).symm.trans h))⟩
      · obtain rfl := h4 (ready_dep hi 4 (by kernel_rfl))
        refine wpOp_val (I t) rfl (by rfl) (by go_simp) ?_
        exact ⟨by simpa using hL, _, _, _, _, _, _, _, _, _, _, _, _, rfl, hbw', (fun h => h0 ((set_other (by decide)).symm.trans h)), (fun h => h1 ((set_other (by decide)).symm.trans h)), (fun h => h2 ((set_other (by decide)).symm.trans h)), (fun h => h3 ((set_other (by decide)).symm.trans h)), (fun h => h4 ((set_other (by decide)).symm.trans h)), fun _ => rfl, (fun h => h6 ((set_other (by decide)).symm.trans h)), (fun h => h7 ((set_other (by decide)).symm.trans h)), (fun h => h8 ((set_other (by decide)).symm.trans h)), (fun h => h9 ((set_other (by decide)).symm.trans h)), (fun h => h10 ((set_other (by decide)).symm.trans h)), (fun h => h11 ((set_other (by decide)).symm.trans h))⟩
      · obtain rfl := h5 (ready_dep hi 5 (by kernel_rfl))
        obtain ⟨x, hrun, hsl⟩ := (h2 (ready_dep hi 2 (by kernel_rfl))).look ht9
        refine wpOp_val (.tuple #[x, .bool (escO W H wall c t).isSome]) rfl (by rfl) (by go_simp) ?_
        exact ⟨by simpa using hL, _, _, _, _, _, _, _, _, _, _, _, _, rfl, hbw', (fun h => h0 ((set_other (by decide)).symm.trans h)), (fun h => h1 ((set_other (by decide)).symm.trans h)), (fun h => h2 ((set_other (by decide)).symm.trans h)), (fun h => h3 ((set_other (by decide)).symm.trans h)), (fun h => h4 ((set_other (by decide)).symm.trans h)), (fun h => h5 ((set_other (by decide)).symm.trans h)), fun _ => ⟨x, rfl, hsl⟩, (fun h => h7 ((set_other (by decide)).symm.trans h)), (fun h => h8 ((set_other (by decide)).symm.trans h)), (fun h => h9 ((set_other (by decide)).symm.trans h)), (fun h => h10 ((set_other (by decide)).symm.trans h)), (fun h => h11 ((set_other (by decide)).symm.trans h))⟩
      · obtain ⟨x, rfl, hsl⟩ := h6 (ready_dep hi 6 (by kernel_rfl))
        refine wpOp_val (.tuple #[x, .bool (escO W H wall c t).isSome]) rfl (by rfl) (by go_simp) ?_
        exact ⟨by simpa using hL, _, _, _, _, _, _, _, _, _, _, _, _, rfl, hbw', (fun h => h0 ((set_other (by decide)).symm.trans h)), (fun h => h1 ((set_other (by decide)).symm.trans h)), (fun h => h2 ((set_other (by decide)).symm.trans h)), (fun h => h3 ((set_other (by decide)).symm.trans h)), (fun h => h4 ((set_other (by decide)).symm.trans h)), (fun h => h5 ((set_other (by decide)).symm.trans h)), (fun h => h6 ((set_other (by decide)).symm.trans h)), fun _ => ⟨x, rfl, hsl⟩, (fun h => h8 ((set_other (by decide)).symm.trans h)), (fun h => h9 ((set_other (by decide)).symm.trans h)), (fun h => h10 ((set_other (by decide)).symm.trans h)), (fun h => h11 ((set_other (by decide)).symm.trans h))⟩
      · obtain ⟨x, rfl, hsl⟩ := h7 (ready_dep hi 7 (by kernel_rfl))
        refine wpOp_val (x) rfl (by rfl) (by go_simp) ?_
        exact ⟨by simpa using hL, _, _, _, _, _, _, _, _, _, _, _, _, rfl, hbw', (fun h => h0 ((set_other (by decide)).symm.trans h)), (fun h => h1 ((set_other (by decide)).symm.trans h)), (fun h => h2 ((set_other (by decide)).symm.trans h)), (fun h => h3 ((set_other (by decide)).symm.trans h)), (fun h => h4 ((set_other (by decide)).symm.trans h)), (fun h => h5 ((set_other (by decide)).symm.trans h)), (fun h => h6 ((set_other (by decide)).symm.trans h)), (fun h => h7 ((set_other (by decide)).symm.trans h)), fun _ => trivial, (fun h => h9 ((set_other (by decide)).symm.trans h)), (fun h => h10 ((set_other (by decide)).symm.trans h)), (fun h => h11 ((set_other (by decide)).symm.trans h))⟩
      · obtain ⟨x, rfl, hsl⟩ := h7 (ready_dep hi 7 (by kernel_rfl))
        refine wpOp_val (.bool (escO W H wall c t).isSome) rfl (by rfl) (by go_simp) ?_
        exact ⟨by simpa using hL, _, _, _, _, _, _, _, _, _, _, _, _, rfl, hbw', (fun h => h0 ((set_other (by decide)).symm.trans h)), (fun h => h1 ((set_other (by decide)).symm.trans h)), (fun h => h2 ((set_other (by decide)).symm.trans h)), (fun h => h3 ((set_other (by decide)).symm.trans h)), (fun h => h4 ((set_other (by decide)).symm.trans h)), (fun h => h5 ((set_other (by decide)).symm.trans h)), (fun h => h6 ((set_other (by decide)).symm.trans h)), (fun h => h7 ((set_other (by decide)).symm.trans h)), (fun h => h8 ((set_other (by decide)).symm.trans h)), fun _ => rfl, (fun h => h10 ((set_other (by decide)).symm.trans h)), (fun h => h11 ((set_other (by decide)).symm.trans h))⟩
      · refine wpOp_val (u15) rfl (by rfl) (by go_simp) ?_
        exact ⟨by simpa using hL, _, _, _, _, _, _, _, _, _, _, _, _, rfl, hbw', (fun h => h0 ((set_other (by decide)).symm.trans h)), (fun h => h1 ((set_other (by decide)).symm.trans h)), (fun h => h2 ((set_other (by decide)).symm.trans h)), (fun h => h3 ((set_other (by decide)).symm.trans h)), (fun h => h4 ((set_other (by decide)).symm.trans h)), (fun h => h5 ((set_other (by decide)).symm.trans h)), (fun h => h6 ((set_other (by decide)).symm.trans h)), (fun h => h7 ((set_other (by decide)).symm.trans h)), (fun h => h8 ((set_other (by decide)).symm.trans h)), (fun h => h9 ((set_other (by decide)).symm.trans h)), fun _ => trivial, (fun h => h11 ((set_other (by decide)).symm.trans h))⟩
      · obtain rfl := h9 (ready_dep hi 9 (by kernel_rfl))
        refine wpOp_val (.bool (escO W H wall c t).isSome) rfl (by rfl) (by go_simp) ?_
        exact ⟨by simpa using hL, _, _, _, _, _, _, _, _, _, _, _, _, rfl, hbw', (fun h => h0 ((set_other (by decide)).symm.trans h)), (fun h => h1 ((set_other (by decide)).symm.trans h)), (fun h => h2 ((set_other (by decide)).symm.trans h)), (fun h => h3 ((set_other (by decide)).symm.trans h)), (fun h => h4 ((set_other (by decide)).symm.trans h)), (fun h => h5 ((set_other (by decide)).symm.trans h)), (fun h => h6 ((set_other (by decide)).symm.trans h)), (fun h => h7 ((set_other (by decide)).symm.trans h)), (fun h => h8 ((set_other (by decide)).symm.trans h)), (fun h => h9 ((set_other (by decide)).symm.trans h)), (fun h => h10 ((set_other (by decide)).symm.trans h)), fun _ => rfl⟩
    · rintro L a w' ⟨hL, u8, u9, u10, u11, u12, u13, u14, u7, u15, u16, u5, u6, rfl, hbw', h0, h1, h2, h3, h4, h5, h6, h7, h8, h9, h10, h11⟩ hr
      have hall := all_listed hL (by kernel_rfl) hr
      obtain rfl := h0 (hall 0 (by decide))
      obtain rfl := h1 (hall 1 (by decide))
      have g2 := h2 (hall 2 (by decide))
      obtain rfl := h3 (hall 3 (by decide))
      obtain rfl := h4 (hall 4 (by decide))
      obtain rfl := h5 (hall 5 (by decide))
      have g6 := h6 (hall 6 (by decide))
      have g7 := h7 (hall 7 (by decide))
      have g8 := h8 (hall 8 (by decide))
      obtain rfl := h9 (hall 9 (by decide))
      have g10 := h10 (hall 10 (by decide))
      obtain rfl := h11 (hall 11 (by decide))
      clear hall hr hL
      try dsimp only
      go_wp2_with fail
      go_meet
      exact ⟨rfl, keptS_of hbw'⟩
  case rest =>
    obtain ⟨rfl, hkk⟩ := hcut
    have HKK := Lib.hid hkk.1
    clear hkk f0 f1 f2 f3 f4 C1
    go_wp2_with fail
    go_ret
    exact ⟨rfl, hb1.trans (HKK.out.mono hb1.size)⟩
end Go.Proofs.Ytfjincdlenneaaa
