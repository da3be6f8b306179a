/-
  THE ITERATOR 'hangings': a closure that calls itself, and hands out a list that lies in memory.
-/
import Derived.Test.YtglkjiimmlobbaaPzHngP
import Derived.Deep.CutRange
namespace Go.Proofs.Ytglkjiimmlobbaa
open Go.RowKit Go.Shelf
attribute [local go_sem] Oper.semAt_some
/-- how the closure's variables lie -/
structure HSt (b n : Nat) (A : Option Addr) (ln c l : Nat) (W : World) (h : List Int) : Prop where
  g : W.heap[b]? = some (.cells #[I n, .slice A ln c] 127 (0, 0))
  y : W.heap[b + 1]? = some (.cells #[.func (.yield l) #[] #[]] 36 (0, 0))
  own : W.ownsRow (b + 2) 3 1 (.slice (some ⟨b + 2, 0, none⟩) h.length n) h.length (h.map I)
  s : W.heap[b + 3]? = some (.cells #[.slice (some ⟨b + 2, 0, none⟩) h.length n] 29 (0, 0))
  t : W.heap[b + 4]? = some (.cells #[.func (.func 145) #[] #[.pointer (some ⟨b + 3, 0, none⟩), .pointer (some ⟨b, 0, none⟩), .pointer (some ⟨b + 1, 0, none⟩), .pointer (some ⟨b + 4, 0, none⟩)]] 24 (0, 0))
theorem own_at {w w' : World} {b g n k : Nat} {xs : List Value} (h : w.ownsRow b 3 1 (.slice (some ⟨g, 0, none⟩) k n) k xs) (e : w'.heap[g]? = w.heap[g]?) : w'.ownsRow b 3 1 (.slice (some ⟨g, 0, none⟩) k n) k xs := by
  obtain ⟨h1, h2⟩ := h
  refine ⟨h1, ?_⟩
  rcases h2 with ⟨h2, -⟩ | ⟨g', cap', cur, h2, h3, h4, h5⟩
  · cases h2
  · refine .inr ⟨g', cap', cur, h2, h3, ?_, h5⟩
    injection h2 with e1 _ _
    injection e1 with e1
    injection e1 with e1 _ _
    subst e1
    rw [e, h4]
theorem HSt.same {b n : Nat} {A : Option Addr} {ln c l : Nat} {W W' : World} {h : List Int} (hs : HSt b n A ln c l W h) (e : ∀ i, b ≤ i → i < b + 5 → W'.heap[i]? = W.heap[i]?) : HSt b n A ln c l W' h where
  g := (e b (by omega) (by omega)).trans hs.g
  y := (e (b + 1) (by omega) (by omega)).trans hs.y
  own := own_at hs.own (e (b + 2) (by omega) (by omega))
  s := (e (b + 3) (by omega) (by omega)).trans hs.s
  t := (e (b + 4) (by omega) (by omega)).trans hs.t
theorem HSt.ints {b n : Nat} {A : Option Addr} {ln c l : Nat} {W : World} {h : List Int} (hs : HSt b n A ln c l W h) : IntsR W W.heap.size (some ⟨b + 2, 0, none⟩) h := by
  obtain ⟨A', c', e, hi, -⟩ := own_ints hs.own
  injection e with e _ _
  rw [e]; exact hi
theorem HSt.lt {b n : Nat} {A : Option Addr} {ln c l : Nat} {W : World} {h : List Int} (hs : HSt b n A ln c l W h) : b + 5 ≤ W.heap.size := by
  have := row_lt' hs.t; omega

set_option maxRecDepth 100000 in
set_option maxHeartbeats 4000000 in
theorem try_rec (b n : Nat) (A : Option Addr) (c l : Nat) (ps : List Por) (L : List (List Int)) (m0 B : Nat) (J Jx : Nat → World → Prop) (hn : n ≤ 6) (hpl : ps.length ≤ maxLen) (hB : B ≤ b)
    (hJ : ∀ k X Y, J k X → BelowD b (b + 5) X Y → J k Y) (hG : ∀ k X, J k X → PorR X B A ps)
    (hY : ∀ (k : Nat) (_ : k < L.length) (W1 : World) (v : Value), b + 5 ≤ W1.heap.size → J k W1 → lstE (b + 2) n L k W1 v → YieldAt Fence.wide (m0 - 1) Try.prog l #[v] W1 fun e W2 =>
      (e = .returned (.bool true) ∧ J (k + 1) W2 ∧ KeepMid b (b + 5) W1 W2) ∨ (e = .returned (.bool false) ∧ Jx (k + 1) W2 ∧ KeepMid b (b + 5) W1 W2)) :
    ∀ (f : Nat) (h : List Int) (r : Nat) (W : World), h.length + f = n → Seg L r (fl (allT' ps) f n h) → HSt b n A ps.length c l W h → J r W →
      Calls Try.prog 145 #[.pointer (some ⟨b + 3, 0, none⟩), .pointer (some ⟨b, 0, none⟩), .pointer (some ⟨b + 1, 0, none⟩), .pointer (some ⟨b + 4, 0, none⟩)] W fun e W' =>
        (e = .returned (.bool true) ∧ J (r + (fl (allT' ps) f n h).length) W' ∧ HSt b n A ps.length c l W' h ∧ W.heap.size ≤ W'.heap.size) ∨ (e = .returned (.bool false) ∧ ∃ j, 0 < j ∧ j ≤ L.length ∧ Jx j W') := by
  intro f
  induction f with
  | zero =>
    intro h r W hh hs hS hJW
    have hsz := hS.lt
    have c0 : W.cell? ⟨b + 3, 0, none⟩ = some (.slice (some ⟨b + 2, 0, none⟩) h.length n) := cell_of_row W _ 0 _ _ _ hS.s
    have g0 : W.cell? ⟨b, 0, none⟩ = some (I n) := cell_of_row W _ 0 _ _ _ hS.g
    have g1 : W.cell? ⟨b, 1, none⟩ = some (.slice A ps.length c) := cell_of_row W _ 1 _ _ _ hS.g
    have hp : PorR W W.heap.size A ps := (hG _ _ hJW).more (by omega)
    have hcall := isRight_any n A (some ⟨b + 2, 0, none⟩) c n ps h W hp hpl hS.ints (by omega)
    have e1 : ((h.length : Int) == (n : Int)) = true := by simp; omega
    have e2 : (h.length == n) = true := by simp; omega
    have HH := Lib.hid hh
    have HSS := Lib.hid hS
    clear hS hp hh
    refine (callsIn_wide (n := 20)).1 (callsIn_of_wp Try.func145 rfl trivial ?_ rfl)
    simp only [Try.ntmps145, List.size_toArray, List.length_cons, List.length_nil, Nat.reduceAdd, Nat.reduceSub, Array.replicate_succ, Array.replicate_zero, List.push_toArray, List.append_toArray, List.nil_append, List.cons_append]
    gi_wp2_with fail
    refine ⟨trivial, ?_⟩
    refine (callsIn_wide.2 hcall).mono ?_
    rintro e Z ⟨rfl, hb1⟩
    have hD : BelowD b (b + 5) W Z := .of_below hb1 (Nat.le_refl _) (by omega)
    have hSZ : HSt b n A ps.length c l Z h := HSS.out.same (fun i h1 h2 => hb1.block i (by omega))
    have hJZ := hJ _ _ _ hJW hD
    have c0 : Z.cell? ⟨b + 3, 0, none⟩ = some (.slice (some ⟨b + 2, 0, none⟩) h.length n) := cell_of_row Z _ 0 _ _ _ hSZ.s
    have y0 : Z.cell? ⟨b + 1, 0, none⟩ = some (.func (.yield l) #[] #[]) := cell_of_row Z _ 0 _ _ _ hSZ.y
    have hsZ := hb1.size
    clear hcall g0 g1 hb1 hD
    cases hq : allT' ps h
    · have HF := Lib.hid (show fl (allT' ps) 0 n h = [] by rw [fl_zero, hq]; rfl)
      clear hq
      gi_wp2_with fail
      refine ⟨fun _ h => (by cases h), ?_⟩
      gi_wp2
      go_ret
      refine .inl ⟨rfl, ?_, hSZ, hsZ⟩
      rw [HF.out]; exact hJZ
    · have HF := Lib.hid (show fl (allT' ps) 0 n h = [h] by rw [fl_zero, hq]; rfl)
      have hlen := hs.len
      have hat := hs.at_ (j := 0) (by rw [HF.out]; exact Nat.zero_lt_one)
      rw [HF.out] at hlen
      have hat2 : L.getD r [] = h := by rw [Nat.add_zero] at hat; rw [hat]; simp [HF.out]
      have hfull : Z.heap[b + 2]? = some (.cells (h.map I).toArray 3 (0, 0)) := own_full (b := b + 2) (by
        have := hSZ.own
        have e : h.length = n := by have := HH.out; omega
        rw [← e] at this
        exact this)
      have hnn : h.length = n := by have := HH.out; omega
      obtain ⟨fn, tmps, assign, body, hy, hR⟩ := hY r (by simp at hlen; omega) Z (.slice (some ⟨b + 2, 0, none⟩) n n) (by omega) hJZ ⟨rfl, by rw [hat2]; exact hfull⟩
      have hR' : RoundIn Fence.wide 19 Try.prog l fn tmps assign body Z _ := ⟨hR.1, fun c cs _ => hR.2 c cs (room_wide _)⟩
      have hrl : r + 1 ≤ L.length := by simpa using hlen
      rw [hnn] at c0
      clear hR hq hat hat2 hfull hlen hs hnn
      gi_wp2_with fail
      refine hR'.mono ?_
      rintro e V (⟨rfl, hJ3, hk3⟩ | ⟨rfl, hJx3, hk3⟩)
      · have hSV : HSt b n A ps.length c l V h := hSZ.same (fun i h1 h2 => hk3.same i h1 h2 (by omega))
        have hsV := hk3.size
        clear hy c0 y0
        gi_wp2
        go_ret
        refine .inl ⟨rfl, ?_, hSV, by omega⟩
        rw [HF.out]; exact hJ3
      · clear hy c0 y0
        gi_wp2
        go_ret
        exact .inr ⟨rfl, r + 1, by omega, hrl, hJx3⟩
  | succ f ih =>
    intro h r W hh hs hS hJW
    have hsz := hS.lt
    have c0 : W.cell? ⟨b + 3, 0, none⟩ = some (.slice (some ⟨b + 2, 0, none⟩) h.length n) := cell_of_row W _ 0 _ _ _ hS.s
    have g0 : W.cell? ⟨b, 0, none⟩ = some (I n) := cell_of_row W _ 0 _ _ _ hS.g
    have e1 : ((h.length : Int) == (n : Int)) = false := by simp; omega
    have e2 : (h.length == n) = false := by simp; omega
    have HSS := Lib.hid hS
    have HH := Lib.hid hh
    have HSEG := Lib.hid hs
    have HIH := Lib.hid ih
    clear hS hh hs ih
    refine (callsIn_wide (n := 20)).1 (callsIn_of_wp Try.func145 rfl trivial ?_ rfl)
    simp only [Try.ntmps145, List.size_toArray, List.length_cons, List.length_nil, Nat.reduceAdd, Nat.reduceSub, Array.replicate_succ, Array.replicate_zero, List.push_toArray, List.append_toArray, List.nil_append, List.cons_append]
    gi_wp2_with fail
    gi_loopw [22] (fun i wr => ∃ p : Nat, p ≤ n ∧ i = .int .i64 p ∧ J (r + (pre (allT' ps) f n h p).length) wr ∧ Hid (HSt b n A ps.length c l wr h) ∧ W.heap.size ≤ wr.heap.size) (fun i _ => n - (intOf i).toNat)
    case atStart => exact ⟨0, Nat.zero_le _, rfl, hJW, HSS, Nat.le_refl _⟩
    case round =>
      obtain ⟨p, hp, rfl, hJp, HS, hsr⟩ := hrel
      clear c0 g0 hJW
      by_cases hlt : p < n
      · have c0 : wr.cell? ⟨b + 3, 0, none⟩ = some (.slice (some ⟨b + 2, 0, none⟩) h.length n) := cell_of_row wr _ 0 _ _ _ HS.out.s
        have hkn : h.length < n := by have := HH.out; omega
        have hcall := contains_any (some ⟨b + 2, 0, none⟩) n h (p : Int) wr HS.out.ints (by omega)
        gi_wp2_with fail
        refine ⟨trivial, ?_⟩
        refine (callsIn_wide.2 hcall).mono ?_
        rintro e w' ⟨rfl, hww⟩
        rw [hww]
        clear hww hcall
        cases hq : h.contains (p : Int)
        · have HC := Lib.hid (show chl (allT' ps) f n h p = fl (allT' ps) f n (h ++ [(p : Int)]) by rw [chl, hq]; rfl)
          have hown := HS.out.own
          have hlt5 := HS.out.lt
          obtain ⟨i0, hi, hz0, hz1, hz2⟩ := info_parts info_int
          clear hq
          gi_upto_region 7 with fail
          gi_wp2_with (gi_at_builtin; refine wpListIn_append_fits _ rfl _ _ 29 rfl (b + 2) 3 i0 1 Try.underlying29 hi hz1 (b + 2) h.length n (h.map I) rfl (hown.alloc _) ⟨wr.heap.size, 0, none⟩ 1 1 [I p] rfl rfl ?c1 ?c2 ?c3 ?_)
          case c1 =>
            intro j u hj
            match j, hj with
            | 0, hj => simp at hj; subst hj; simp [Addr.add]
          case c2 => intro u hu; simp at hu; subst hu; rfl
          case c3 => omega
          intro w4 hown' hgrow
          have hbl : ∀ i, i < wr.heap.size → i ≠ b + 2 → w4.heap[i]? = wr.heap[i]? := fun i h1 h2 =>
            (hgrow.block i (by simp; omega) (fun e => by injection e with e; omega)).trans (Below.heap_alloc _ _ _ h1)
          have hs4 : wr.heap.size ≤ w4.heap.size := by have := hgrow.size; simp at this; omega
          have y3 : w4.heap[b + 3]? = some (.cells #[.slice (some ⟨b + 2, 0, none⟩) h.length n] 29 (0, 0)) := (hbl _ (by omega) (by omega)).trans HS.out.s
          have y4 : w4.heap[b + 4]? = _ := (hbl _ (by omega) (by omega)).trans HS.out.t
          have q3 : w4.cell? ⟨b + 3, 0, none⟩ = some (.slice (some ⟨b + 2, 0, none⟩) h.length n) := cell_of_row w4 _ 0 _ _ _ y3
          have f3 : w4.frozen? ⟨b + 3, 0, none⟩ = false := frozen_of_row y3 0
          have hb4 : Below b wr w4 := ((Below.refl _ _).alloc (by omega) _).grown hgrow (by simp; omega) (fun j hj => by injection hj with hj; omega)
          have HOWN := Lib.hid hown'
          have HBL := Lib.hid hbl
          have HY3 := Lib.hid y3
          have HY4 := Lib.hid y4
          clear hown' hgrow hbl y3 y4 c0 hown
          gi_upto_region 8 with fail
          obtain ⟨w5, hw5⟩ : ∃ w5, w5 = w4.setCell ⟨b + 3, 0, none⟩ (.slice (some ⟨b + 2, 0, none⟩) (h.length + 1) n) := ⟨_, rfl⟩
          rw [← hw5]
          have hbl5 : ∀ i, i ≠ b + 3 → w5.heap[i]? = w4.heap[i]? := fun i h1 => by rw [hw5]; exact Below.heap_setCell _ _ _ _ h1
          have hs5 : w5.heap.size = w4.heap.size := by rw [hw5]; simp [World.setCell]
          have hlen : (h ++ [(p : Int)]).length = h.length + 1 := by simp
          have hS5 : HSt b n A ps.length c l w5 (h ++ [(p : Int)]) := {
            g := (hbl5 _ (by omega)).trans ((HBL.out _ (by omega) (by omega)).trans HS.out.g)
            y := (hbl5 _ (by omega)).trans ((HBL.out _ (by omega) (by omega)).trans HS.out.y)
            own := by
              have := own_at HOWN.out (hbl5 (b + 2) (by omega))
              rw [hlen, List.map_append]; exact this
            s := by rw [hw5, hlen]; exact row_set HY3.out 0 _
            t := (hbl5 _ (by omega)).trans HY4.out }
          have hD5 : BelowD b (b + 5) wr w5 := ⟨by rw [hw5]; exact hb4.setCell (p := ⟨b + 3, 0, none⟩) (by show b ≤ b + 3; omega) _, fun i h1 h2 => (hbl5 i (by omega)).trans (HBL.out i h2 (by omega))⟩
          have hJ5 := hJ _ _ _ hJp hD5
          have hih := HIH.out (h ++ [(p : Int)]) (r + (pre (allT' ps) f n h p).length) w5 (by rw [hlen]; have := HH.out; omega) (by rw [← HC.out]; exact HSEG.out.child hlt) hS5 hJ5
          have t5 : w5.cell? ⟨b + 4, 0, none⟩ = some (.func (.func 145) #[] #[.pointer (some ⟨b + 3, 0, none⟩), .pointer (some ⟨b, 0, none⟩), .pointer (some ⟨b + 1, 0, none⟩), .pointer (some ⟨b + 4, 0, none⟩)]) := cell_of_row w5 _ 0 _ _ _ hS5.t
          clear hw5 q3 f3 hbl5 hS5 hJ5 hD5 hJp hb4 hlen
          gi_wp2_with fail
          refine ⟨trivial, ?_⟩
          refine (callsIn_wide.2 hih).mono ?_
          rintro e V (⟨rfl, hJV, hSV, hsV⟩ | ⟨rfl, j, j0, j1, hjx⟩)
          · have hlen : (h ++ [(p : Int)]).length = h.length + 1 := by simp
            have hs3 := hSV.s
            have hownV := hSV.own
            rw [hlen] at hs3 hownV
            rw [List.map_append] at hownV
            have hless := own_less hownV
            obtain ⟨K, hK⟩ : ∃ K, K = h.length + 1 := ⟨_, rfl⟩
            rw [← hK] at hs3
            have hKn : K ≤ n := by omega
            have hK1 : 1 ≤ K := by omega
            have e3 : (K : Int) - 1 = (h.length : Int) := by omega
            have q3 : V.cell? ⟨b + 3, 0, none⟩ = some (.slice (some ⟨b + 2, 0, none⟩) K n) := cell_of_row V _ 0 _ _ _ hs3
            have f3 : V.frozen? ⟨b + 3, 0, none⟩ = false := frozen_of_row hs3 0
            have hlK : h.length ≤ K := by omega
            have HLE := Lib.hid hless
            have HS3 := Lib.hid hs3
            have HSV := Lib.hid hSV
            clear hih t5 hlen hs3 hownV hless hSV hK
            gi_wp2
            have hbl6 : ∀ i, i ≠ b + 3 → (V.setCell ⟨b + 3, 0, none⟩ (.slice (some ⟨b + 2, 0, none⟩) h.length n)).heap[i]? = V.heap[i]? := fun i h1 => Below.heap_setCell _ _ _ _ h1
            refine ⟨⟨p + 1, by omega, by go_num, ?_, Lib.hid ?_, ?_⟩, by simp [intOf]; omega⟩
            · rw [pre_succ, List.length_append, HC.out, ← Nat.add_assoc]
              exact hJ _ _ _ hJV ⟨(Below.refl _ _).setCell (p := ⟨b + 3, 0, none⟩) (by show b ≤ b + 3; omega) _, fun i h1 h2 => hbl6 i (by omega)⟩
            · exact {
                g := (hbl6 _ (by omega)).trans HSV.out.g
                y := (hbl6 _ (by omega)).trans HSV.out.y
                own := own_at HLE.out (hbl6 (b + 2) (by omega))
                s := row_set HS3.out 0 _
                t := (hbl6 _ (by omega)).trans HSV.out.t }
            · simp [World.setCell]; omega
          · clear hih t5
            gi_wp2
            go_ret
            exact .inr ⟨rfl, j, j0, j1, hjx⟩
        · have HC := Lib.hid (show pre (allT' ps) f n h (p + 1) = pre (allT' ps) f n h p by rw [pre_succ, chl, hq]; simp)
          clear hq
          gi_wp2
          refine ⟨⟨p + 1, by omega, by go_num, ?_, HS, hsr⟩, by simp [intOf]; omega⟩
          rw [HC.out]; exact hJp
      · obtain rfl : p = n := by omega
        have HF := Lib.hid (show fl (allT' ps) (f + 1) p h = pre (allT' ps) f p h p from fl_succ _ _ _ _)
        gi_wp2
        go_ret
        refine .inl ⟨rfl, ?_, HS.out, hsr⟩
        rw [HF.out]; exact hJp
end Go.Proofs.Ytglkjiimmlobbaa
