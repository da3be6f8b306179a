/-
  THE LAST PART of the law PuzzlesHung: what Hang returns, one by one.
-/
import Derived.Test.YtglkjiimmlobbaaPzHun
import Derived.Test.YtglkjiimmlobbaaPzRHgs
import Derived.Test.YtglkjiimmlobbaaPzHas
namespace Go.Proofs.Ytglkjiimmlobbaa
open Go.RowKit Go.Shelf
/-- what is left of a body behind its first n statements -/
def dropH : Nat → Code → Code
  | 0, d => d
  | n + 1, .seq _ b => dropH n b
  | _ + 1, d => d
def headH : Code → Code
  | .seq a _ => a
  | d => d

set_option maxRecDepth 100000 in
set_option maxHeartbeats 8000000 in
theorem hung_tail {code1 code2 : Code} (hc1 : code1 = headH (dropH 7 (Try.f15.body.getD .skip))) (hc2 : code2 = dropH 8 (Try.f15.body.getD .skip))
    {k q0 q1 q2 c : Nat} {A : Option Addr} {ps : List Por} {w w7 : World} {Q : Exit → Act → World → Prop} {K : Act → World → Prop} {u2 u5 u7 u19 u20 u21 u22 u23 u24 u25 u26 u27 u28 u29 u30 u31 u32 u33 u34 u35 u36 u37 u38 u39 u40 u41 u42 u43 u44 u45 u46 u47 u48 u49 u50 u51 u52 u53 u54 u55 u56 u57 u58 u59 u60 u61 u62 u63 u64 u65 u66 : Value}
    (hQ : Q = bodyPost Try.prog Try.f15 (fun e w' => e = .returned (.bool true) ∧ Below w.heap.size w w')) (hK : ∀ (a : Act) (w : World), Code.wp Try.prog code2 Q a w → K a w)
    (HE : Hid (porE k ps = 0)) (n1 : 1 ≤ k) (n2 : k ≤ 6) (hl : ps.length < 20) (hq0 : q0 = (hngL k ps).length) (hs2 : q1 + q2 = q0) (hp7 : PorR w7 w7.heap.size A ps) (hB7 : Below w.heap.size w w7) :
    Code.wp Try.prog code1 (Exit.then K Q) { tmps := #[I k, .slice A ps.length c, u2, undef, undef, u5, Value.bool false, u7, I q0, I 0, I q1, I 0, I q2, I 0, undef, undef, undef, undef, undef, u19, u20, u21, u22, u23, u24, u25, u26, u27, u28, u29, u30, u31, u32, u33, u34, u35, u36, u37, u38, u39, u40, u41, u42, u43, u44, u45, u46, u47, u48, u49, u50, u51, u52, u53, u54, u55, u56, u57, u58, u59, u60, u61, u62, u63, u64, u65, u66, undef, undef, undef, undef, undef, undef, undef, undef, undef, undef, undef, undef, undef, undef, undef, undef, undef, undef, undef, undef, undef, undef, undef, undef, undef, undef, undef, undef, undef, undef, undef, undef, undef, undef, undef, undef, undef, undef, undef, undef, undef, undef, undef, undef, undef, undef, undef, undef, undef, undef, undef, undef, undef, undef, undef, undef, undef, undef, undef, undef, undef, undef, undef, undef, undef, undef, undef, undef, undef, undef, undef, undef, undef, undef, undef, undef, undef, undef, undef, undef, undef, undef, undef, undef, undef, undef, undef, undef, undef, undef, undef, undef, undef], defers := [] } w7 := by
  simp only [Try.f15, Option.getD_some, dropH, headH] at hc1 hc2
  subst hc1 hc2 hQ
  have hpl : ps.length ≤ maxLen := by unfold maxLen; omega
  have HZ := Lib.hid (show hgE k 64 ps = 0 by rw [hgE, fstTwo, if_pos HE.out]; rfl)
  have HL := Lib.hid (show hgL k 64 ps = (hngL k ps).take 64 by rw [hgL, if_pos HZ.out]; rfl)
  have hmost := hng_most (n := k) (ps := ps) (by omega)
  have HLL := Lib.hid (show (hgL k 64 ps).length = min 64 q0 by rw [HL.out, List.length_take, hq0])
  have hall := Hang_any k 64 A c ps w7 hp7 hpl
  rw [HZ.out] at hall
  obtain ⟨L, hL⟩ : ∃ L, L = hgL k 64 ps := ⟨_, rfl⟩
  have HM := Lib.hid (fun y (hy : y ∈ L) => show y ∈ hngL k ps by rw [hL, HL.out] at hy; exact List.mem_of_mem_take hy)
  have H1 := Lib.hid (fun y (hy : y ∈ L) => hng_each y (HM.out y hy))
  have H2 := Lib.hid (fun y (hy : y ∈ L) (p : Nat) (hp : p < k) => show hasI y (p : Int) = true from hng_all y (HM.out y hy) p hp)
  have H3 := Lib.hid (fun y (hy : y ∈ L) (j : Nat) (hj : j < ps.length) => show truB ps[j] y = true from List.all_eq_true.1 (hng_right y (HM.out y hy)) _ (List.getElem_mem hj))
  have H4 := Lib.hid (fun (i : Nat) (h : i + 1 < L.length) => show earB L[i] L[i + 1] = true by
    subst hL
    have e := HL.out
    simp only [e] at h ⊢
    exact hng_sorted k ps 64 h)
  have H5 := Lib.hid (fun (j : Nat) (hj : j < ps.length) => por_kind (List.all_eq_true.1 (porE_ok HE.out).2.2 _ (List.getElem_mem hj)))
  rw [← hL] at hall HLL
  rw [← hq0] at hmost
  clear HM HZ HL hq0 hL
  have g5 : ((q1 : Int) + (q2 : Int) != (q0 : Int)) = false := by simp; omega
  go_wp2_with fail
  refine hall.mono ?_
  rintro e w8 ⟨A8, c8, rfl, i8, m8, hb8⟩
  have hp8 := por_call hb8 hp7
  have hB8 := hB7.trans (hb8.mono hB7.size)
  clear hall hp7 hB7 hb8
  have HM8 := Lib.hid m8
  clear m8
  go_upto_region 9 with fail
  go_cut [100] from 73 to 100 (fun s wx => s = .bool false ∧ wx = w8)
  case first =>
    have hlen := HLL.out
    by_cases hq : 64 < q0
    · have g6 : ((L.length : Int) != 64) = false := by simp; omega
      have g7 : (L.length != 64) = false := by simp; omega
      have g8 : (64 : Int) < (q0 : Int) := by omega
      clear hlen
      go_wp2_with fail
      go_meet
      exact ⟨rfl, rfl⟩
    · have g6 : ((L.length : Int) != (q0 : Int)) = false := by simp; omega
      have g7 : (L.length != q0) = false := by simp; omega
      have g8 : ¬ (64 : Int) < (q0 : Int) := by omega
      clear hlen
      go_wp2_with fail
      go_meet
      exact ⟨rfl, rfl⟩
  case rest =>
  obtain ⟨rfl, hwc⟩ := hcut
  rw [hwc]
  clear hwc hmost
  go_wp2_with fail
  go_loopw [16] (fun i wr => ∃ j : Nat, j ≤ L.length ∧ i = .int .i64 j ∧ Below w8.heap.size w8 wr) (fun i _ => L.length - (intOf i).toNat)
  case atStart => exact ⟨0, Nat.zero_le _, rfl, Below.refl _ _⟩
  case round =>
    obtain ⟨j, hj, rfl, hB⟩ := hrel
    have hlm := HM8.out
    unfold maxLen at hlm
    by_cases hlt : j < L.length
    · obtain ⟨b1, o1, a1, d1, rfl, t1, f1, x1, z1⟩ := (sls_call hB i8).plain hlt
      have hpr := por_call hB hp8
      obtain ⟨y, hy⟩ : ∃ y, y = L[j] := ⟨_, rfl⟩
      have hyl := H1.out _ (List.getElem_mem hlt)
      have K2 := Lib.hid (H2.out _ (List.getElem_mem hlt))
      have K3 := Lib.hid (H3.out _ (List.getElem_mem hlt))
      rw [← hy] at f1 x1 z1 hyl K2 K3
      have ly : y.length ≤ 1000 := by omega
      have HYL := Lib.hid hyl
      clear hyl
      have HY := Lib.hid hy
      clear hy
      go_upto_region 14 with fail
      go_cut [130] from 107 to 130 (fun s wx => s = .bool false ∧ KeptS wr wx)
      case first =>
        have g0 : ((y.length : Int) != (k : Int)) = false := by rw [HYL.out]; simp
        have g0' : (y.length != k) = false := by rw [HYL.out]; simp
        rcases Nat.eq_zero_or_pos j with h0 | h0
        · subst h0
          rw [Nat.add_zero] at f1
          go_quiet (fail)
          go_wp2_with fail
          go_meet
          exact ⟨rfl, keptS_of (below_drewN (Below.refl _ _) _)⟩
        · obtain ⟨i, rfl⟩ : ∃ i, j = i + 1 := ⟨j - 1, by omega⟩
          have hlt2 : i < L.length := by omega
          obtain ⟨b2, o2, a2, d2, e2, -, f2, x2, z2⟩ := (sls_call hB i8).plain hlt2
          injection e2 with e2
          injection e2 with e3 e4 _
          subst e3 e4
          have HSO := Lib.hid (show earB L[i] y = true by rw [HY.out]; exact H4.out i hlt)
          have hzl := H1.out _ (List.getElem_mem hlt2)
          obtain ⟨z, hz⟩ : ∃ z, z = L[i] := ⟨_, rfl⟩
          rw [← hz] at f2 x2 z2 hzl HSO
          have lz : z.length ≤ 1000 := by omega
          clear hz hzl
          rw [show ((i + 1 : Nat) : Int) = (i : Int) + 1 from rfl]
          have q1' : decide ((0 : Int) < (i : Int) + 1) = true := decide_eq_true (by omega)
          have q2' : decide (0 < i + 1) = true := decide_eq_true (by omega)
          have q3' : (0 : Int) < (i : Int) + 1 := by omega
          have hw1 : IntKind.i64.wrap (i : Int) = (i : Int) := (IntWalk.i64_left _).trans (IntWalk.wrap64_in _ ⟨by omega, by omega⟩)
          have hw2 : (i : Int) < (L.length : Int) := by omega
          have hw4 : (i : Int) + 1 < (L.length : Int) := by omega
          have hw5 : 0 ≤ (i : Int) + 1 := by omega
          have hw6 : IntKind.i64.wrap ((i : Int) + 1) = (i : Int) + 1 := (IntWalk.i64_left _).trans (IntWalk.wrap64_in _ ⟨by omega, by omega⟩)
          have C1 : ∀ V, KeptS wr V → Calls Try.prog 58 #[.slice a2 z.length d2, .slice a1 y.length d1] V fun e w' => e = .returned (.bool true) ∧ Below V.heap.size V w' := fun V h => by
            have := earlier_any a2 a1 d2 d1 z y V (kept_ints h x2) (kept_ints h x1) lz ly
            rwa [HSO.out] at this
          go_region_held3 (fun w' => Below wr.heap.size wr w' ∧ (∀ b o, b < wr.heap.size → w'.cell? ⟨b, o, none⟩ = wr.cell? ⟨b, o, none⟩))
            (first | exact keptS_drew _ | exact keptS_call (by assumption) hb | exact keptS_alloc (by assumption) _ | assumption)
            ((go_at_call 58; go_must (refine (C1 _ (by assumption)).mono ?_); rintro e w' ⟨rfl, hb⟩))
          all_goals
            go_wp2_with fail
            go_meet
            exact ⟨rfl, by assumption⟩
      case rest =>
        obtain ⟨rfl, hkk⟩ := hcut
        have hBc : Below w8.heap.size w8 wc := hB.trans (hkk.1.mono hB.size)
        have t1c : b1 < wc.heap.size := by have := hkk.1.size; omega
        have f1c : wc.cell? ⟨b1, o1 + j, none⟩ = some (.slice a1 y.length d1) := (hkk.2 b1 _ t1).trans f1
        have x1c := kept_ints hkk x1
        have hpc := por_call hkk.1 hpr
        clear hkk f1 x1 hpr hB i8 hp8
        go_wp2_with fail
        go_loopw [17] (fun i wx => ∃ p : Nat, p ≤ k ∧ i = .int .i64 p ∧ wx = wc) (fun i _ => k - (intOf i).toNat)
        case atStart => exact ⟨0, Nat.zero_le _, rfl, rfl⟩
        case round =>
          obtain ⟨p, hp, rfl, hwx⟩ := hrel
          rw [hwx]
          clear hwx
          by_cases hlp : p < k
          · have hcall := lhas_any a1 d1 y (p : Int) wc x1c (by omega)
            rw [K2.out p hlp] at hcall
            go_wp2_with (go_at_call 55; refine hcall.mono ?_; rintro e w' ⟨rfl, hww⟩; rw [hww]; clear hww)
            clear hcall
            go_roundw
            case rel => exact ⟨p + 1, by omega, by go_num, trivial⟩
            case measure => simp [intOf]; omega
          · have hpk : p = k := by omega
            rw [hpk]
            clear hpk hlp hp
            go_wp2_with fail
            go_loopw [18] (fun i wx => ∃ q : Nat, q ≤ ps.length ∧ i = .int .i64 q ∧ Below wc.heap.size wc wx) (fun i _ => ps.length - (intOf i).toNat)
            case atStart => exact ⟨0, Nat.zero_le _, rfl, Below.refl _ _⟩
            case round =>
              obtain ⟨q, hq, rfl, hBx⟩ := hrel
              rename World => wx
              by_cases hlq : q < ps.length
              · obtain ⟨gb, go, e1, hgb, s0, s1, s2, s3, s4⟩ := (por_call hBx hpc).at_ hlq
                rw [e1]
                have hkind := H5.out q hlq
                have htru := K3.out q hlq
                obtain ⟨s, hs⟩ : ∃ s, s = ps[q] := ⟨_, rfl⟩
                rw [← hs] at s0 s1 s2 s3 s4 hkind htru
                clear hs e1
                have t1x : b1 < wx.heap.size := by have := hBx.size; omega
                have f1x : wx.cell? ⟨b1, o1 + j, none⟩ = some (.slice a1 y.length d1) := (hBx.cell (p := ⟨b1, o1 + j, none⟩) t1c).trans f1c
                have x1x := ints_call hBx x1c
                have C3 : ∀ V, KeptS wx V → Calls Try.prog 60 #[porV s, .slice a1 y.length d1] V fun e w' => e = .returned (.bool true) ∧ Below V.heap.size V w' := fun V h => by
                  have := true_any s a1 d1 y V (kept_ints h x1x) ly hkind
                  rwa [htru] at this
                clear htru hkind
                go_upto_region 24 with fail
                go_region_held3 (fun w' => Below wx.heap.size wx w' ∧ (∀ b o, b < wx.heap.size → w'.cell? ⟨b, o, none⟩ = wx.cell? ⟨b, o, none⟩))
                  (first | exact keptS_drew _ | exact keptS_call (by assumption) hb | exact keptS_alloc (by assumption) _ | assumption)
                  ((go_at_call 60; go_must (refine (C3 _ (by assumption)).mono ?_); rintro e w' ⟨rfl, hb⟩))
                all_goals
                  have hBy := hBx.trans (Below.mono (And.left (by assumption : KeptS wx _)) hBx.size)
                  go_wp2
                  go_roundw
                  case rel => exact ⟨q + 1, by omega, by go_num, hBy⟩
                  case measure => simp [intOf]; omega
              · have hqk : q = ps.length := by omega
                rw [hqk]
                have hBe := hBc.trans (hBx.mono hBc.size)
                clear hBx hq hlq hpc f1c x1c
                go_wp2_with fail
                go_roundw
                case rel => exact ⟨j + 1, by omega, by go_num, hBe⟩
                case measure => simp [intOf]; omega
    · obtain rfl : j = L.length := by omega
      have hB9 := hB8.trans (hB.mono hB8.size)
      clear i8 hp8
      go_wp2_with fail
      refine (works_any wr).mono ?_
      rintro e w9 ⟨rfl, hb9⟩
      go_wp2
      go_ret
      exact ⟨rfl, hB9.trans (hb9.mono hB9.size)⟩
end Go.Proofs.Ytglkjiimmlobbaa
