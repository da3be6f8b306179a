/-
  CONTRACTS: the document's own Hang, Hangings; the law PuzzlesHangs.
-/
import Derived.Test.YtglkjiimmlobbaaPzRHng
import Derived.Test.YtglkjiimmlobbaaPzHang
import Derived.Test.YtglkjiimmlobbaaPzSame
import Derived.Test.YtglkjiimmlobbaaPzWorks
import Derived.Test.YtglkjiimmlobbaaPzWeiLaw
namespace Go.Proofs.Ytglkjiimmlobbaa
open Go.RowKit Go.Shelf
theorem sls_take {w : World} {B : Nat} {A : Option Addr} {xss : List (List Int)} (h : SlsR w B A xss) (k : Nat) : SlsR w B A (xss.take k) := fun h0 => by
  rw [List.length_take] at h0
  obtain ⟨ad, e, hl, hc⟩ := h (by omega)
  refine ⟨ad, e, hl, fun j hj => ?_⟩
  rw [List.length_take] at hj
  obtain ⟨A', c', h1, h2, h3⟩ := hc j (by omega)
  rw [List.getElem_take]
  exact ⟨A', c', h1, h2, h3⟩
theorem SlsR.plain {w : World} {B : Nat} {A : Option Addr} {xss : List (List Int)} (h : SlsR w B A xss) {k : Nat} (hk : k < xss.length) : ∃ (g o : Nat) (A' : Option Addr) (c' : Nat), A = some ⟨g, o, none⟩ ∧ g < B ∧ w.cell? ⟨g, o + k, none⟩ = some (.slice A' (xss[k]).length c') ∧ IntsR w B A' xss[k] ∧ (xss[k]).length ≤ maxLen := by
  obtain ⟨⟨g, o, sp⟩, e, hl, hc⟩ := h (by omega)
  obtain ⟨A', c', h1, h2, h3⟩ := hc k hk
  cases sp with
  | none =>
    have hadd : (⟨g, o, none⟩ : Addr).add k = ⟨g, o + k, none⟩ := by unfold Addr.add; split <;> simp_all
    rw [hadd] at h1
    exact ⟨g, o, A', c', e, hl, h1, h2, h3⟩
  | some s =>
    exfalso
    obtain ⟨A0, c0, h0, -, -⟩ := hc 0 (by omega)
    have := World.cell?_spot h0
    simp [Addr.add] at this
set_option maxRecDepth 100000 in
set_option maxHeartbeats 2000000 in
theorem rhang_top (n : Nat) (A : Option Addr) (c : Nat) (ps : List Por) (w : World) (hp : PorR w w.heap.size A ps) (hn : n ≤ 6) (hpl : ps.length ≤ 20) (hv : ps.all (porM ((n : Int) - 1) n) = true) :
    Calls Try.prog 116 #[I n, .slice A ps.length c, .slice none 0 0] w fun e w' => ∃ v, e = .returned v ∧ Lists w' w.heap.size v (hngL n ps) ∧ Below w.heap.size w w' := by
  refine (rhang_any n A c ps hn hpl hv n w.heap.size [] none 0 w (by simp) hp (World.ownsRow_nil _ _ _ _) (Nat.le_refl _)).mono ?_
  rintro e w' ⟨v, rfl, hl, hb⟩
  exact ⟨v, rfl, hl.lists (Nat.le_refl _) (Nat.le_refl _), hb⟩

set_option maxRecDepth 100000 in
set_option maxHeartbeats 2000000 in
theorem rHangings_any (n : Int) (A : Option Addr) (c : Nat) (ps : List Por) (w : World) (hp : PorR w w.heap.size A ps) (hpl : ps.length ≤ maxLen) :
    Calls Try.prog 49 #[I n, .slice A ps.length c] w fun e w' => e = .returned (.tuple #[I (hngN n ps : Nat), I (porE n ps)]) ∧ Below w.heap.size w w' := by
  have HNN := Lib.hid (show hngN n ps = if porE n ps = 0 then (hngL n.toNat ps).length else 0 from rfl)
  go_enter Try.func49, Try.ntmps49
  go_wp2_with fail
  refine (checkPor_any n A c ps w hp hpl).mono ?_
  rintro e w1 ⟨rfl, hb1⟩
  have hp1 := por_call hb1 hp
  obtain ⟨E, hE⟩ : ∃ E, E = porE n ps := ⟨_, rfl⟩
  rw [← hE]
  have HE := Lib.hid hE
  clear hp
  by_cases h0 : E = 0
  · obtain ⟨⟨h1, h2⟩, h3, h4⟩ := porE_ok (n := n) (ps := ps) (by rw [← hE]; exact h0)
    have HN := Lib.hid (HNN.out.trans (if_pos (by rw [← hE]; exact h0)))
    obtain ⟨k, rfl⟩ := Int.eq_ofNat_of_zero_le (show 0 ≤ n by omega)
    have hcall := rhang_top k A c ps w1 hp1 (by omega) h3 h4
    obtain ⟨L, hL⟩ : ∃ L, L = hngL k ps := ⟨_, rfl⟩
    rw [← hL] at hcall
    have HL := Lib.hid hL
    subst h0
    clear h4 hL hE h3
    go_wp2_with fail
    refine hcall.mono ?_
    rintro e w3 ⟨v, rfl, hl, hb3⟩
    obtain ⟨Av, cv, rfl, -, -, -⟩ := hl.sls
    clear hcall hl hp1
    go_wp2
    go_ret2
    exact ⟨by rw [HN.out, ← HE.out]; show _ = Ending.returned (.tuple #[I ((hngL k ps).length : Nat), I 0]); rw [← HL.out]; rfl, hb1.trans (hb3.mono hb1.size)⟩
  · have HN := Lib.hid (HNN.out.trans (if_neg (by rw [← hE]; exact h0)))
    have g2 : (E != 0) = true := by simpa using h0
    clear h0 hE
    go_wp2
    go_ret2
    exact ⟨by rw [HN.out, ← HE.out]; rfl, hb1⟩

set_option maxRecDepth 100000 in
set_option maxHeartbeats 2000000 in
theorem rHang_any (n most : Int) (A : Option Addr) (c : Nat) (ps : List Por) (w : World) (hp : PorR w w.heap.size A ps) (hpl : ps.length ≤ maxLen) :
    Calls Try.prog 47 #[I n, .slice A ps.length c, I most] w fun e w' => ∃ A' c', e = .returned (.tuple #[.slice A' (hgL n most ps).length c', I (hgE n most ps)]) ∧ SlsR w' w'.heap.size A' (hgL n most ps) ∧ (hgL n most ps).length ≤ maxLen ∧ Below w.heap.size w w' := by
  have HEE := Lib.hid (show hgE n most ps = if porE n ps = 0 then (if wi most 1 64 then 0 else 1) else porE n ps by rw [hgE, fstTwo])
  have HLL := Lib.hid (show hgL n most ps = if hgE n most ps = 0 then (hngL n.toNat ps).take most.toNat else [] from rfl)
  go_enter Try.func47, Try.ntmps47
  go_wp2_with fail
  refine (checkPor_any n A c ps w hp hpl).mono ?_
  rintro e w1 ⟨rfl, hb1⟩
  have hp1 := por_call hb1 hp
  obtain ⟨E, hE⟩ : ∃ E, E = porE n ps := ⟨_, rfl⟩
  rw [← hE]
  have HE := Lib.hid hE
  clear hp
  by_cases h0 : E = 0
  · obtain ⟨⟨h1, h2⟩, h3, h4⟩ := porE_ok (n := n) (ps := ps) (by rw [← hE]; exact h0)
    have HE1 := Lib.hid (HEE.out.trans (if_pos (by rw [← hE]; exact h0)))
    obtain ⟨k, rfl⟩ := Int.eq_ofNat_of_zero_le (show 0 ≤ n by omega)
    have hcall := rhang_top k A c ps w1 hp1 (by omega) h3 h4
    have HLM := Lib.hid (hng_most (n := k) (ps := ps) (by omega))
    obtain ⟨L, hL⟩ : ∃ L, L = hngL k ps := ⟨_, rfl⟩
    rw [← hL] at hcall HLM
    have HL := Lib.hid hL
    subst h0
    clear h4 hL hE h3
    cases hw : wi most 1 64
    · have HE2 := Lib.hid (show hgE k most ps = 1 by rw [HE1.out, hw]; rfl)
      have HL2 := Lib.hid (show hgL k most ps = [] by rw [HLL.out, HE2.out]; rfl)
      clear hcall
      go_wp2_with (go_at_call 67; refine (rWithin_any _ _ _ _).mono ?_; rintro e w' ⟨rfl, hww⟩; rw [hww, hw]; clear hww)
      go_ret2
      exact ⟨none, 0, by rw [HE2.out, HL2.out]; rfl, by rw [HL2.out]; exact fun h => absurd h (Nat.lt_irrefl 0), by rw [HL2.out]; exact Nat.zero_le _, hb1⟩
    · have HE2 := Lib.hid (show hgE k most ps = 0 by rw [HE1.out, hw]; rfl)
      have HL2 := Lib.hid (show hgL k most ps = L.take most.toNat by rw [HLL.out, HE2.out, if_pos rfl, HL.out]; rfl)
      have hm : 1 ≤ most ∧ most ≤ 64 := by simpa [wi] using hw
      obtain ⟨m, rfl⟩ := Int.eq_ofNat_of_zero_le (show 0 ≤ most by omega)
      have hm1 := hm.1
      have hm2 := hm.2
      clear hm
      go_wp2_with (go_at_call 67; refine (rWithin_any _ _ _ _).mono ?_; rintro e w' ⟨rfl, hww⟩; rw [hww, hw]; clear hww)
      refine hcall.mono ?_
      rintro e w3 ⟨v, rfl, hl, hb3⟩
      obtain ⟨Av, cv, rfl, hs, hlm, hlc⟩ := hl.sls
      have HS := Lib.hid hs
      have hB3 := hb1.trans (hb3.mono hb1.size)
      have hlm2 := HLM.out
      have HT := Lib.hid (show (L.take m).length = min m L.length from List.length_take)
      clear hcall hl hp1 hs hb3 hw
      have htn : ((m : Int)).toNat = m := rfl
      go_wp2_with fail
      · have hz : (L.take m).length = m := by rw [HT.out]; omega
        go_ret2
        have hs := sls_take HS.out m
        exact ⟨Av, ⟨cv, by rw [HE2.out, HL2.out, htn, hz]; rfl⟩, by rw [HL2.out, htn]; exact hs, by rw [HL2.out, htn, hz]; omega, hB3⟩
      · have hz : L.take m = L := List.take_of_length_le (by omega)
        go_ret2
        exact ⟨Av, ⟨cv, by rw [HE2.out, HL2.out, htn, hz]; rfl⟩, by rw [HL2.out, htn, hz]; exact HS.out, by rw [HL2.out, htn, hz]; exact hlm, hB3⟩
  · have HN := Lib.hid (HEE.out.trans (if_neg (by rw [← hE]; exact h0)))
    have HL2 := Lib.hid (show hgL n most ps = [] by rw [HLL.out, HN.out, if_neg (by rw [← hE]; exact h0)])
    have g2 : (E != 0) = true := by simpa using h0
    clear h0 hE
    go_wp2
    go_ret2
    exact ⟨none, 0, by rw [HN.out, HL2.out, ← HE.out]; rfl, by rw [HL2.out]; exact fun h => absurd h (Nat.lt_irrefl 0), by rw [HL2.out]; exact Nat.zero_le _, hb1⟩

set_option maxRecDepth 100000 in
set_option maxHeartbeats 4000000 in
theorem hangs_any (n most : Int) (A : Option Addr) (c : Nat) (ps : List Por) (w : World) (hp : PorR w w.heap.size A ps) (hpl : ps.length ≤ maxLen) :
    Calls Try.prog 9 #[I n, .slice A ps.length c, I most] w fun e w' => e = .returned (.bool true) ∧ Below w.heap.size w w' := by
  go_enter Try.func9, Try.ntmps9
  go_wp2_with fail
  refine (Hang_any n most A c ps w hp hpl).mono ?_
  rintro e w1 ⟨A1, c1, rfl, i1, m1, hb1⟩
  have hp1 := por_call hb1 hp
  go_wp2_with fail
  refine (rHang_any n most A c ps w1 hp1 hpl).mono ?_
  rintro e w2 ⟨A2, c2, rfl, i2, -, hb2⟩
  have hp2 := por_call hb2 hp1
  have i1' := sls_call hb2 i1
  have hB2 := hb1.trans (hb2.mono hb1.size)
  obtain ⟨L, hL⟩ : ∃ L, L = hgL n most ps := ⟨_, rfl⟩
  rw [← hL] at i1' i2 m1
  rw [← hL]
  have g1 := bne_self (hgE n most ps)
  have g2 := bne_self (L.length : Int)
  generalize hgE n most ps = E at *
  have HM := Lib.hid m1
  clear hb1 hb2 hp hp1 i1 hL m1
  go_wp2_with fail
  go_loopw [11] (fun i wr => ∃ k : Nat, k ≤ L.length ∧ i = .int .i64 k ∧ Below w2.heap.size w2 wr) (fun i _ => L.length - (intOf i).toNat)
  case atStart => exact ⟨0, Nat.zero_le _, rfl, Below.refl _ _⟩
  case round =>
    obtain ⟨k, hk, rfl, hB⟩ := hrel
    have hlm := HM.out
    unfold maxLen at hlm
    by_cases hlt : k < L.length
    · obtain ⟨b1, o1, a1, d1, rfl, t1, f1, x1, z1⟩ := (sls_call hB i1').plain hlt
      obtain ⟨b2, o2, a2, d2, rfl, t2, f2, x2, -⟩ := (sls_call hB i2).plain hlt
      obtain ⟨x, hx⟩ : ∃ x, x = L[k] := ⟨_, rfl⟩
      rw [← hx] at f1 f2 x1 x2 z1
      clear hx
      have C1 : ∀ V, KeptS wr V → Calls Try.prog 25 #[.slice a1 x.length d1, .slice a2 x.length d2] V fun e w' => e = .returned (.bool true) ∧ Below V.heap.size V w' := fun V h => by
        have := sameInts_any a1 a2 d1 d2 x x V (kept_ints h x1) (kept_ints h x2) z1 z1
        rwa [decide_eq_true rfl] at this
      go_upto_region 8 with fail
      go_region_held3 (fun w' => Below wr.heap.size wr w' ∧ (∀ b o, b < wr.heap.size → w'.cell? ⟨b, o, none⟩ = wr.cell? ⟨b, o, none⟩))
        (first | exact keptS_drew _ | exact keptS_call (by assumption) hb | exact keptS_alloc (by assumption) _ | assumption)
        ((go_at_call 25; go_must (refine (C1 _ (by assumption)).mono ?_); rintro e w' ⟨rfl, hb⟩))
      all_goals
        have hB3 := hB.trans (Below.mono (And.left (by assumption : KeptS wr _)) hB.size)
        go_wp2
        go_roundw
        case rel => exact ⟨k + 1, by omega, by go_num, hB3⟩
        case measure => simp [intOf]; omega
    · obtain rfl : k = L.length := by omega
      have hB3 := hB2.trans (hB.mono hB2.size)
      have hp3 := por_call hB hp2
      clear i1' i2 hp2
      go_wp2_with fail
      refine (Hangings_any n A c ps wr hp3 hpl).mono ?_
      rintro e w4 ⟨rfl, hb4⟩
      have hp4 := por_call hb4 hp3
      have hB4 := hB3.trans (hb4.mono hB3.size)
      go_wp2_with fail
      refine (rHangings_any n A c ps w4 hp4 hpl).mono ?_
      rintro e w5 ⟨rfl, hb5⟩
      have hB5 := hB4.trans (hb5.mono hB4.size)
      have g4 := beq_self' ((hngN n ps : Nat) : Int)
      have g5 := beq_self' (porE n ps)
      generalize ((hngN n ps : Nat) : Int) = q3 at *
      generalize porE n ps = q4 at *
      clear hb5 hb4 hp3 hp4 hB4
      go_wp2_with fail
      refine (works_any w5).mono ?_
      rintro e w8 ⟨rfl, hb8⟩
      go_wp2
      go_ret
      exact ⟨rfl, hB5.trans (hb8.mono hB5.size)⟩
end Go.Proofs.Ytglkjiimmlobbaa
