/-
  CONTRACTS: traps, Traps.
-/
import Derived.Test.YtfjincdlenneaaaPzMazU
namespace Go.Proofs.Ytfjincdlenneaaa
open Go.RowKit Go.Shelf
/-- the numbers below m that something accepts -/
def numsG (T : Nat → Bool) (m : Nat) : List Int := ((List.range m).filter T).map (fun (k : Nat) => (k : Int))
theorem numsG_yes {T : Nat → Bool} {m : Nat} (h : T m = true) : numsG T (m + 1) = numsG T m ++ [(m : Int)] := by
  rw [numsG, List.range_succ, List.filter_append, List.map_append, numsG]; simp [h]
theorem numsG_no {T : Nat → Bool} {m : Nat} (h : T m = false) : numsG T (m + 1) = numsG T m := by
  rw [numsG, List.range_succ, List.filter_append, List.map_append, numsG]; simp [h]
theorem numsG_len (T : Nat → Bool) (m : Nat) : (numsG T m).length ≤ m := by
  rw [numsG, List.length_map]
  exact Nat.le_trans (List.length_filter_le _ _) (by simp)
theorem numsG_snoc {T : Nat → Bool} {m : Nat} (h : T m = true) : (numsG T m).map I ++ [I (m : Int)] = (numsG T (m + 1)).map I := by rw [numsG_yes h, List.map_append]; rfl
/-- a trap -/
noncomputable def trpB (W H : Nat) (wall : Nat → Bool) (f t k : Nat) : Bool := (escO W H wall f k).isSome && !(escO W H wall k t).isSome
/-- the call's own boxes: the map, the maze -/
structure TrpAt (W H : Nat) (wall : Nat → Bool) (f t n : Nat) (A : Option Addr) (cap br bm : Nat) (mv : Value) (V : World) : Prop where
  lr : br < V.heap.size
  lm : bm < V.heap.size
  r : V.heap[br]? = some (.cells #[mv] 122 (0, 0))
  m : V.heap[bm]? = some (.cells #[I W, I H, I f, I t, .slice A n cap] 117 (0, 0))
  map : MapR W H wall f V mv
  boos : BoosR V V.heap.size A wall n
theorem TrpAt.call {W H : Nat} {wall : Nat → Bool} {f t n : Nat} {A : Option Addr} {cap br bm : Nat} {mv : Value} {V V' : World} (h : TrpAt W H wall f t n A cap br bm mv V) (hb : Below V.heap.size V V') : TrpAt W H wall f t n A cap br bm mv V' where
  lr := Nat.lt_of_lt_of_le h.lr hb.size
  lm := Nat.lt_of_lt_of_le h.lm hb.size
  r := (hb.block _ h.lr).trans h.r
  m := (hb.block _ h.lm).trans h.m
  map := h.map.call hb
  boos := boos_call hb h.boos
theorem TrpAt.grow {W H : Nat} {wall : Nat → Bool} {f t n : Nat} {A : Option Addr} {cap br bm : Nat} {mv : Value} {V V' : World} {B : Nat} (h : TrpAt W H wall f t n A cap br bm mv V) (hb : Below B V V') (hB : V.heap.size ≤ B) : TrpAt W H wall f t n A cap br bm mv V' := h.call (hb.mono hB)
set_option maxRecDepth 100000 in
set_option maxHeartbeats 1000000 in
theorem trapsLit_any (W H f t n k : Nat) (A : Option Addr) (cap br bm : Nat) (mv : Value) (wall : Nat → Bool) (V : World) (hW : 1 ≤ W) (hW9 : W ≤ 64) (hH : H ≤ 64) (hn : n = W * H) (hn9 : n ≤ 64) (hf : f < n) (hwf : wall f = false) (ht : t < n) (hk : k < n)
    (hT : TrpAt W H wall f t n A cap br bm mv V) :
    Calls Try.prog 141 #[I k, .pointer (some ⟨br, 0, none⟩), .pointer (some ⟨bm, 0, none⟩)] V fun e w' => e = .returned (.bool (trpB W H wall f t k)) ∧ Below V.heap.size V w' := by
  have r0 : V.cell? ⟨br, 0, none⟩ = some mv := cell_of_row V _ 0 _ _ _ hT.r
  have m0 : V.cell? ⟨bm, 0, none⟩ = some (I W) := cell_of_row V _ 0 _ _ _ hT.m
  have m1 : V.cell? ⟨bm, 1, none⟩ = some (I H) := cell_of_row V _ 1 _ _ _ hT.m
  have m2 : V.cell? ⟨bm, 2, none⟩ = some (I f) := cell_of_row V _ 2 _ _ _ hT.m
  have m3 : V.cell? ⟨bm, 3, none⟩ = some (I t) := cell_of_row V _ 3 _ _ _ hT.m
  have m4 : V.cell? ⟨bm, 4, none⟩ = some (.slice A n cap) := cell_of_row V _ 4 _ _ _ hT.m
  obtain ⟨x, hrun, _⟩ := hT.map.look (t := k) (by omega)
  cases hq : (escO W H wall f k).isSome
  · have HB := Lib.hid (show trpB W H wall f t k = false by rw [trpB, hq]; rfl)
    rw [hq] at hrun
    clear hT hq
    go_enter Try.func141, Try.ntmps141
    go_wp2
    go_ret
    exact ⟨ret_bool HB.out.symm, Below.refl _ _⟩
  · have HB := Lib.hid (show trpB W H wall f t k = !(escO W H wall k t).isSome by rw [trpB, hq]; rfl)
    obtain ⟨p, hp⟩ := Option.isSome_iff_exists.1 hq
    have hin := esc_in hW (by rw [← hn]; exact hf) hwf hp
    have hcall := leads_any W H k t n f A cap wall V hW hW9 hH hn hn9 hk hin.2 ht hT.boos
    rw [hq] at hrun
    clear hT hq hp hin hn
    generalize (escO W H wall k t).isSome = b at *
    go_enter Try.func141, Try.ntmps141
    go_wp2_with fail
    refine hcall.mono ?_
    rintro e w' ⟨rfl, hb⟩
    clear hcall r0 m0 m1 m2 m3 m4 hrun
    go_wp2
    go_ret
    exact ⟨ret_bool HB.out.symm, hb⟩
set_option maxRecDepth 100000 in
set_option maxHeartbeats 2000000 in
theorem trapsNumbers_any (W H f t n : Nat) (A : Option Addr) (cap br bm : Nat) (mv : Value) (wall : Nat → Bool) (w : World) (hW : 1 ≤ W) (hW9 : W ≤ 64) (hH : H ≤ 64) (hn : n = W * H) (hn9 : n ≤ 64) (hf : f < n) (hwf : wall f = false) (ht : t < n)
    (hT : TrpAt W H wall f t n A cap br bm mv w) :
    Calls Try.prog 74 #[I n, .func (.func 141) #[] #[.pointer (some ⟨br, 0, none⟩), .pointer (some ⟨bm, 0, none⟩)]] w fun e w' => ∃ A c, e = .returned (.slice A (numsG (trpB W H wall f t) n).length c) ∧ IntsR w' w'.heap.size A (numsG (trpB W H wall f t) n) ∧ Below w.heap.size w w' := by
  have HN := Lib.hid hn
  obtain ⟨T, hTT⟩ : ∃ T, T = trpB W H wall f t := ⟨_, rfl⟩
  have C1 : ∀ k V, k < n → TrpAt W H wall f t n A cap br bm mv V → Calls Try.prog 141 #[I k, .pointer (some ⟨br, 0, none⟩), .pointer (some ⟨bm, 0, none⟩)] V fun e w' => e = .returned (.bool (T k)) ∧ Below V.heap.size V w' := fun k V hk h => by
    rw [hTT]
    exact trapsLit_any W H f t n k A cap br bm mv wall V hW hW9 hH HN.out hn9 hf hwf ht hk h
  rw [← hTT]
  clear hTT hn
  go_enter Try.func74, Try.ntmps74
  go_wp2_with fail
  go_loopw [5, 6, 8] (fun v _ i wr => ∃ k : Nat, k ≤ n ∧ i = .int .i64 k ∧ wr.ownsRow w.heap.size 3 1 v (numsG T k).length ((numsG T k).map I) ∧ Below w.heap.size w wr) (fun _ _ i _ => n - (intOf i).toNat)
  case atStart => exact ⟨0, Nat.zero_le _, rfl, World.ownsRow_nil _ _ _ _, Below.refl _ _⟩
  case round =>
    obtain ⟨k, hk, rfl, hown, hB⟩ := hrel
    obtain ⟨v, hv⟩ : ∃ v : Value, v = u5 := ⟨_, rfl⟩
    subst hv
    by_cases hlt : k < n
    · have hcall := C1 k wr hlt (hT.call hB)
      have g1' : (k : Int) < n := by omega
      have hhl := numsG_len T k
      have hrow := hown.lt
      go_wp2_with fail
      refine hcall.mono ?_
      rintro e w2 ⟨rfl, hb2⟩
      have hB2 : Below w.heap.size w w2 := hB.trans (hb2.mono hB.size)
      have hown2 : w2.ownsRow w.heap.size 3 1 v (numsG T k).length ((numsG T k).map I) := by
        refine ⟨hown.1, ?_⟩
        rcases hown.2 with h | ⟨g, cp, cur, h1, h2, h3, h4⟩
        · exact .inl h
        · exact .inr ⟨g, cp, cur, h1, h2, (hb2.block g (Array.getElem?_eq_some_iff.1 h3).1).trans h3, h4⟩
      have hrow2 := hown2.lt
      clear hcall hown hrow
      cases hq : T k
      · have HQ := Lib.hid (numsG_no hq)
        clear hq
        go_wp2_with fail
        go_roundw
        case rel => exact ⟨k + 1, by omega, by go_num, by rw [HQ.out]; exact hown2, hB2⟩
        case measure => simp [intOf]; omega
      · have HQ := Lib.hid (numsG_snoc hq)
        have HL := Lib.hid (show (numsG T (k + 1)).length = (numsG T k).length + 1 by rw [numsG_yes hq]; simp)
        obtain ⟨i0, hi, hz0, hz1, hz2⟩ := info_parts info_int
        clear hq
        go_wp2_with (at_builtin; refine wpList_append_own _ rfl _ _ 29 rfl w.heap.size 3 i0 (.int .i64 0) 1 8 Try.underlying29 hi hz0 hz1 hz2 rfl (by decide) v _ _ rfl (hown2.alloc _) ⟨w2.heap.size, 0, none⟩ 1 1 [I k] rfl rfl ?c1 ?c2 ?c3 ?c4 ?c5 ?_)
        case c1 =>
          intro j u hj
          match j, hj with
          | 0, hj => simp at hj; subst hj; simp [Addr.add]
        case c2 => intro u hu; simp at hu; subst hu; rfl
        case c3 => unfold maxLen; omega
        case c4 => omega
        case c5 => have := hB2.size; simp; omega
        intro v' w4 hown' hgrow _
        have hown4 := hown'
        rw [HQ.out, ← HL.out] at hown4
        have hB4 : Below w.heap.size w w4 := (hB2.alloc hB2.size _).grown hgrow (by have := hB2.size; simp; omega) (fun j hj => (hrow2 j hj).1)
        clear hown' hgrow hown2 hrow2
        go_wp2
        go_roundw
        case rel => exact ⟨k + 1, by omega, by go_num, hown4, hB4⟩
        case measure => simp [intOf]; omega
    · obtain rfl : k = n := by omega
      obtain ⟨A', c, rfl, hi, -⟩ := own_ints hown
      clear hown C1 hT
      go_wp2_with fail
      go_ret
      exact ⟨_, _, rfl, hi, hB⟩
set_option maxRecDepth 100000 in
set_option maxHeartbeats 2000000 in
theorem traps_any (W H f t n : Nat) (A : Option Addr) (cap : Nat) (wall : Nat → Bool) (w : World) (hW : 1 ≤ W) (hW9 : W ≤ 64) (hH : H ≤ 64) (hn : n = W * H) (hn9 : n ≤ 64) (hf : f < n) (hwf : wall f = false) (ht : t < n) (hx : BoosR w w.heap.size A wall n) :
    Calls Try.prog 112 #[mazV W H f t A n cap] w fun e w' => ∃ A c, e = .returned (.slice A (numsG (trpB W H wall f t) n).length c) ∧ IntsR w' w'.heap.size A (numsG (trpB W H wall f t) n) ∧ Below w.heap.size w w' := by
  obtain ⟨w1, hw1, hs1, y0, hb1⟩ := one_box w (.cells #[I W, I H, I f, I t, .slice A n cap] 117)
  have f0 : w1.cell? ⟨w.heap.size, 0, none⟩ = some (I W) := cell_of_row w1 _ 0 _ _ _ y0
  have f1 : w1.cell? ⟨w.heap.size, 1, none⟩ = some (I H) := cell_of_row w1 _ 1 _ _ _ y0
  have f2 : w1.cell? ⟨w.heap.size, 2, none⟩ = some (I f) := cell_of_row w1 _ 2 _ _ _ y0
  have f3 : w1.cell? ⟨w.heap.size, 3, none⟩ = some (I t) := cell_of_row w1 _ 3 _ _ _ y0
  have f4 : w1.cell? ⟨w.heap.size, 4, none⟩ = some (.slice A n cap) := cell_of_row w1 _ 4 _ _ _ y0
  have s0 : w.heap.size < w1.heap.size := by omega
  have hx1 := boos_call hb1 hx
  have HN := Lib.hid hn
  have hcall := routes_map W H f n f t A cap wall w1 hW hW9 hH hn hn9 hf hwf hx1
  have Y0 := Lib.hid y0
  clear y0 hs1 hn hx
  go_enter Try.func112, Try.ntmps112
  go_upto_region 1 with fail
  rw [← hw1]
  clear hw1
  go_wp2_with fail
  refine hcall.mono ?_
  rintro e w2 ⟨mv, rfl, hmap, -, hb2⟩
  have y2 := (hb2.block _ s0).trans Y0.out
  have hx2 := boos_call hb2 hx1
  have hs2 : w.heap.size < w2.heap.size := by have := hb2.size; omega
  have hB2 := hb1.trans (hb2.mono hb1.size)
  clear hcall f0 f1 f2 f3 f4 hx1
  obtain ⟨B, hBm⟩ : ∃ B, mv = .map (some B) := let ⟨B, _, _, _, e, _⟩ := hmap; ⟨B, e⟩
  subst hBm
  go_upto_region 2 with fail
  obtain ⟨w3, hw3, hs3, r3, hb3⟩ := one_box w2 (.cells #[.map (some B)] 122)
  rw [← hw3]
  have hT : TrpAt W H wall f t n A cap w2.heap.size w.heap.size (.map (some B)) w3 :=
    { lr := by omega, lm := by omega, r := r3, m := (hb3.block _ hs2).trans y2, map := hmap.call hb3, boos := boos_call hb3 hx2 }
  have hB3 := hB2.trans (hb3.mono hB2.size)
  have f0 : w3.cell? ⟨w.heap.size, 0, none⟩ = some (I W) := cell_of_row w3 _ 0 _ _ _ hT.m
  have f1 : w3.cell? ⟨w.heap.size, 1, none⟩ = some (I H) := cell_of_row w3 _ 1 _ _ _ hT.m
  have f2 : w3.cell? ⟨w.heap.size, 2, none⟩ = some (I f) := cell_of_row w3 _ 2 _ _ _ hT.m
  have f3 : w3.cell? ⟨w.heap.size, 3, none⟩ = some (I t) := cell_of_row w3 _ 3 _ _ _ hT.m
  have HT := Lib.hid hT
  clear hw3 hs3 r3 hmap hx2 y2 hT hb3 hb2 hB2
  go_wp2_with fail
  refine (cellsM_any W H f t w3 (by omega) (by omega) (by omega) (by omega)).mono ?_
  rintro e w4 ⟨rfl, hb4⟩
  have e1 : (W : Int) * (H : Int) = (n : Int) := by rw [HN.out]; push_cast; rfl
  rw [e1]
  have hT4 := HT.out.call hb4
  have hB4 := hB3.trans (hb4.mono hB3.size)
  clear e1 HT hb4 hB3 f0 f1 f2 f3
  have hnum := trapsNumbers_any W H f t n A cap w2.heap.size w.heap.size (.map (some B)) wall w4 hW hW9 hH HN.out hn9 hf hwf ht hT4
  clear hT4
  obtain ⟨L, hL⟩ : ∃ L, L = numsG (trpB W H wall f t) n := ⟨_, rfl⟩
  rw [← hL] at hnum
  have HL := Lib.hid hL
  clear hL
  go_wp2_with fail
  refine hnum.mono ?_
  rintro e w5 ⟨A5, c5, rfl, hi5, hb5⟩
  clear hnum
  go_wp2
  go_ret
  exact ⟨A5, c5, by rw [← HL.out]; rfl, by rw [← HL.out]; exact hi5, hB4.trans (hb5.mono hB4.size)⟩
/-- what Traps returns -/
noncomputable def trpL (W H fr tt : Int) (n : Nat) (wall : Nat → Bool) : List Int := if mazB W H fr tt n wall then numsG (trpB W.toNat H.toNat wall fr.toNat tt.toNat) n else []
def trpE (W H fr tt : Int) (n : Nat) (wall : Nat → Bool) : Int := if mazB W H fr tt n wall then 0 else 30
set_option maxRecDepth 100000 in
set_option maxHeartbeats 4000000 in
theorem Traps_any (W H fr tt : Int) (A : Option Addr) (n cap : Nat) (wall : Nat → Bool) (w : World) (hx : BoosR w w.heap.size A wall n) :
    Calls Try.prog 44 #[.agg #[I W, I H, .slice A n cap, I fr, I tt]] w fun e w' => ∃ A' c', e = .returned (.tuple #[.slice A' (trpL W H fr tt n wall).length c', I (trpE W H fr tt n wall)]) ∧ IntsR w' w'.heap.size A' (trpL W H fr tt n wall) ∧ Below w.heap.size w w' := by
  obtain ⟨wa, ha, sa, ya, ba⟩ := one_box w (.cells #[I W, I H, .slice A n cap, I fr, I tt] 52)
  have f0 : wa.cell? ⟨w.heap.size, 0, none⟩ = some (I W) := cell_of_row wa _ 0 _ _ _ ya
  have f1 : wa.cell? ⟨w.heap.size, 1, none⟩ = some (I H) := cell_of_row wa _ 1 _ _ _ ya
  have f2 : wa.cell? ⟨w.heap.size, 2, none⟩ = some (.slice A n cap) := cell_of_row wa _ 2 _ _ _ ya
  have f3 : wa.cell? ⟨w.heap.size, 3, none⟩ = some (I fr) := cell_of_row wa _ 3 _ _ _ ya
  have f4 : wa.cell? ⟨w.heap.size, 4, none⟩ = some (I tt) := cell_of_row wa _ 4 _ _ _ ya
  have hx1 := boos_call ba hx
  obtain ⟨E, hE⟩ : ∃ E : Int, E = if mazB W H fr tt n wall then 0 else 30 := ⟨_, rfl⟩
  have C0 : ∀ V, BoosR V V.heap.size A wall n → Calls Try.prog 105 #[mazW W H fr tt A n cap] V fun e w' => e = .returned (I E) ∧ Below V.heap.size V w' := fun V h => by rw [hE]; exact mcheck_any _ _ _ _ _ _ _ _ V h
  have HEE := Lib.hid hE
  clear ya hx hE
  go_enter Try.func44, Try.ntmps44
  go_upto_region 1 with fail
  rw [← ha]
  clear ha
  go_wp2_with fail
  refine (mazeOf_any W H fr tt A n cap wa).mono ?_
  rintro e w2 ⟨rfl, hb2⟩
  go_upto_region 2 with fail
  obtain ⟨w3, hw3, hs3, r3, hb3⟩ := one_box w2 (.cells #[I W, I H, I fr, I tt, .slice A n cap] 117)
  rw [← hw3]
  have hx3 := boos_call hb3 (boos_call hb2 hx1)
  have hB3 : Below w.heap.size w w3 := ba.trans ((hb2.mono (by omega)).trans (hb3.mono (by have := hb2.size; omega)))
  obtain ⟨g, hg⟩ : ∃ g, g = w2.heap.size := ⟨_, rfl⟩
  rw [← hg] at r3 hs3
  rw [← hg]
  have hgs : g < w3.heap.size := by omega
  have p0 : w3.cell? ⟨g, 0, none⟩ = some (I W) := cell_of_row w3 _ 0 _ _ _ r3
  have p1 : w3.cell? ⟨g, 1, none⟩ = some (I H) := cell_of_row w3 _ 1 _ _ _ r3
  have p2 : w3.cell? ⟨g, 2, none⟩ = some (I fr) := cell_of_row w3 _ 2 _ _ _ r3
  have p3 : w3.cell? ⟨g, 3, none⟩ = some (I tt) := cell_of_row w3 _ 3 _ _ _ r3
  have p4 : w3.cell? ⟨g, 4, none⟩ = some (.slice A n cap) := cell_of_row w3 _ 4 _ _ _ r3
  have R3 := Lib.hid r3
  clear hw3 hs3 r3 hb3 hb2 hg f0 f1 f2 f3 f4 hx1 ba sa
  go_wp2_with fail
  refine (C0 w3 hx3).mono ?_
  rintro e w7 ⟨rfl, hb4⟩
  have hx7 := boos_call hb4 hx3
  have hB7 := hB3.trans (hb4.mono hB3.size)
  have R7 := Lib.hid ((hb4.block g hgs).trans R3.out)
  have hgs7 : g < w7.heap.size := by have := hb4.size; omega
  clear p0 p1 p2 p3 p4 hb4 hx3 hB3 R3 hgs C0
  by_cases hE0 : E = 0
  · subst hE0
    have hok : mazB W H fr tt n wall = true := by
      have := HEE.out
      cases hm : mazB W H fr tt n wall
      · rw [hm] at this; simp at this
      · rfl
    have HK := Lib.hid hok
    obtain ⟨W', H', f, t, rfl, rfl, rfl, rfl, h1, h2, h3, h4, hn, hn9, hf, ht, hwf, hwt⟩ := maz_nat hok
    have HN := Lib.hid hn
    have ht9 : t ≤ 1000 := by omega
    have r7 := R7.out
    have p0 : w7.cell? ⟨g, 0, none⟩ = some (I W') := cell_of_row w7 _ 0 _ _ _ r7
    have p1 : w7.cell? ⟨g, 1, none⟩ = some (I H') := cell_of_row w7 _ 1 _ _ _ r7
    have p2 : w7.cell? ⟨g, 2, none⟩ = some (I f) := cell_of_row w7 _ 2 _ _ _ r7
    have p3 : w7.cell? ⟨g, 3, none⟩ = some (I t) := cell_of_row w7 _ 3 _ _ _ r7
    have p4 : w7.cell? ⟨g, 4, none⟩ = some (.slice A n cap) := cell_of_row w7 _ 4 _ _ _ r7
    have hcall := traps_any W' H' f t n A cap wall w7 h1 h2 h4 HN.out hn9 hf hwf ht hx7
    obtain ⟨L, hL⟩ : ∃ L, L = numsG (trpB W' H' wall f t) n := ⟨_, rfl⟩
    rw [← hL] at hcall
    have HL := Lib.hid (show trpL W' H' f t n wall = L by rw [trpL, HK.out, hL]; rfl)
    have HE := Lib.hid (show trpE W' H' f t n wall = 0 by rw [trpE, HK.out]; rfl)
    clear r7 hok hn hwt hL
    go_wp2_with fail
    refine hcall.mono ?_
    rintro e w9 ⟨A9, c9, rfl, hi9, hb9⟩
    clear hcall p0 p1 p2 p3 p4
    go_wp2
    go_ret2
    exact ⟨A9, c9, by rw [HL.out, HE.out]; rfl, by rw [HL.out]; exact hi9, hB7.trans (hb9.mono hB7.size)⟩
  · have HNB := Lib.hid (show mazB W H fr tt n wall = false by
      have := HEE.out
      cases hm : mazB W H fr tt n wall
      · rfl
      · rw [hm] at this; exact absurd this hE0)
    have HV := Lib.hid (show trpL W H fr tt n wall = [] by rw [trpL, HNB.out]; rfl)
    have HE := Lib.hid (show trpE W H fr tt n wall = E by rw [trpE, HEE.out, HNB.out])
    have hne : (E != 0) = true := by simpa using hE0
    go_wp2
    go_ret2
    exact ⟨none, 0, by rw [HV.out, HE.out]; rfl, by rw [HV.out]; exact IntsR.nil, hB7⟩
end Go.Proofs.Ytfjincdlenneaaa
