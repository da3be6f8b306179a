/-
  CONTRACT: the law PuzzlesHeard.
-/
import Derived.Test.YteeppkhlnejfkaaPzMelLaw
import Derived.Test.YteeppkhlnejfkaaPzApp
namespace Go.Proofs.Yteeppkhlnejfkaa
open Go.RowKit Go.Shelf
theorem hrd_short {m ks : List Int} {q : Nat} (hq : q ≤ m.length) : hrd m ks q ≤ ks.length := by
  have h := (isEnd_iff.1 (hrd_end m ks q)).length_le
  rw [List.length_take] at h
  have := hrd_le m ks q
  omega
theorem opn_front {m ks : List Int} (fr : List Int) {n : Nat} (h0 : 0 < n) (hn : n ≤ ks.length) (h : m <:+ ks.take n) : ∃ q : Nat, opn m (fr ++ ks) (fr ++ ks).length = q ∧ q ≤ fr.length + n := by
  have hs : m <:+ (fr ++ ks).take (fr.length + n) := by
    rw [List.take_append, List.take_of_length_le (by omega), show fr.length + n - fr.length = n by omega]
    exact h.trans (List.suffix_append _ _)
  rcases opn_cases m (fr ++ ks) (fr ++ ks).length with ⟨-, h2⟩ | ⟨i, h1, h2, h3, h4, h5⟩
  · exact absurd hs (h2 _ (by omega) (by rw [List.length_append]; omega))
  · refine ⟨i, h1, ?_⟩
    rcases Nat.lt_or_ge (fr.length + n) i with h6 | h6
    · exact absurd hs (h5 _ (by omega) h6)
    · exact h6
/-- where it opens, said for each place -/
theorem opn_place {m ks : List Int} {n : Int} (hn : n = opn m ks ks.length) {i : Nat} (h0 : 0 < i) (hi : i ≤ ks.length) (hg : n < 0 ∨ (i : Int) ≤ n) : m.isSuffixOf (ks.take i) = ((i : Int) == n) := by
  rcases opn_cases m ks ks.length with ⟨h1, h2⟩ | ⟨j, h1, h2, h3, h4, h5⟩
  · rw [← hn] at h1
    rw [h1]
    have := h2 i h0 hi
    rw [show ((i : Int) == -1) = false by simp, Bool.eq_false_iff]
    exact fun e => this (List.isSuffixOf_iff_suffix.1 e)
  · rw [← hn] at h1
    rcases Nat.lt_or_ge i j with h6 | h6
    · rw [show ((i : Int) == n) = false by simp; omega, Bool.eq_false_iff]
      exact fun e => h5 i h0 h6 (List.isSuffixOf_iff_suffix.1 e)
    · obtain rfl : i = j := by omega
      rw [show ((i : Int) == n) = true by simp; omega]
      exact List.isSuffixOf_iff_suffix.2 h4
theorem open_ok {m ks : List Int} (h : openE m ks = 0) : melB m = true ∧ ks.length ≤ 200 ∧ inB 0 9 ks = true ∧ openN m ks = opn m ks ks.length := by
  unfold openE at h
  by_cases h1 : melB m = true
  · rw [if_pos h1] at h
    by_cases h2 : ks.length ≤ 200
    · rw [if_pos h2] at h
      by_cases h3 : inB 0 9 ks = true
      · exact ⟨h1, h2, h3, by rw [openN, if_pos ⟨h1, h2, h3⟩]⟩
      · rw [if_neg h3] at h; cases h
    · rw [if_neg h2] at h; cases h
  · rw [if_neg h1] at h; cases h
theorem inB_at {ks : List Int} (h : inB 0 9 ks = true) {k : Nat} (hk : k < ks.length) : wi (nth ks k) 0 9 = true := by
  rw [nth_lt hk]
  exact List.all_eq_true.1 h _ (List.getElem_mem _)

set_option maxRecDepth 100000 in
set_option maxHeartbeats 4000000 in
theorem heard_law (A1 A2 A3 : Option Addr) (c1 c2 c3 : Nat) (m ks fr : List Int) (w : World) (hx : IntsR w w.heap.size A1 m) (hy : IntsR w w.heap.size A2 ks) (hz : IntsR w w.heap.size A3 fr) (hl : m.length ≤ maxLen) (hlk : ks.length ≤ maxLen) (hlf : fr.length ≤ 17592186043904) (hc : m.length ≤ c1) (hck : ks.length ≤ c2) (hn2 : A2 = none → ks.length = 0 ∧ c2 = 0) (hn3 : A3 = none → fr.length = 0 ∧ c3 = 0) :
    Calls Try.prog 16 #[.slice A1 m.length c1, .slice A2 ks.length c2, .slice A3 fr.length c3] w fun e w' => e = .returned (.bool true) ∧ Below w.heap.size w w' := by
  go_enter Try.func16, Try.ntmps16
  go_wp2_with fail
  refine (Opens_any A1 A2 c1 c2 m ks w hx hy hl hlk hc).mono ?_
  rintro e w1 ⟨rfl, hb1⟩
  have hx1 := ints_call hb1 hx
  have hy1 := ints_call hb1 hy
  have hz1 := ints_call hb1 hz
  by_cases he : openE m ks = 0
  · obtain ⟨o1, o2, o3, o4⟩ := open_ok he
    rw [he, o4]
    obtain ⟨n, hn⟩ : ∃ n, n = opn m ks ks.length := ⟨_, rfl⟩
    rw [← hn]
    have hml := mel_len o1
    have hml1 := hml.1
    have hml2 := hml.2
    have M1 := Lib.hid o1
    have N9 := Lib.hid o3
    have HN := Lib.hid hn
    clear he o1 o3 o4 hn hml
    go_wp2_with fail
    go_loopw [9, 10, 11] (fun h a i wr => ∃ (k : Nat) (v : Int), k ≤ ks.length ∧ i = .int .i64 k ∧ Below w.heap.size w wr ∧ a = .int .i64 v ∧ ∃ hv : Int, h = .int .i64 hv ∧ ((v = -1 ∧ ∃ q : Nat, hv = q ∧ q = hrd m (ks.take k) m.length ∧ q < m.length ∧ opn m ks k = -1) ∨ (v = k ∧ 0 < k ∧ n = v))) (fun _ _ i _ => ks.length - (intOf i).toNat)
    case atStart =>
      have h0 : hrd m (ks.take 0) m.length = 0 := hrd_eq (Nat.zero_le _) (isEnd_zero _ _) (fun j h1 h2 => by
        cases h : isEnd m (ks.take 0) j
        · rfl
        · have := (isEnd_iff.1 h).length_le
          rw [List.length_take, List.take_zero, List.length_nil] at this
          omega)
      exact ⟨0, -1, Nat.zero_le _, rfl, hb1, rfl, 0, rfl, .inl ⟨rfl, 0, rfl, h0.symm, by omega, rfl⟩⟩
    case round =>
      obtain ⟨k, v, hkl, rfl, hB, rfl, hv, rfl, hcase⟩ := hrel
      have hxr := (hx.below hB (Nat.le_refl _)).more hB.size
      have hyr := (hy.below hB (Nat.le_refl _)).more hB.size
      clear hx1 hy1 hz1 hb1
      by_cases hcont : k < ks.length ∧ v = -1
      · obtain ⟨hlt, hv1⟩ := hcont
        obtain ⟨q, rfl, hq, hql, hop⟩ : ∃ q : Nat, hv = q ∧ q = hrd m (ks.take k) m.length ∧ q < m.length ∧ opn m ks k = -1 := by
          rcases hcase with ⟨-, h⟩ | ⟨h, -, -⟩
          · exact h
          · omega
        subst hv1
        obtain ⟨ad, rfl, hb, hcc⟩ := hyr.at_ hlt
        have hstep := heard_step (m := m) (ks := ks.take k) (nth ks k) (by rw [← hq]; exact hql)
        have hts : ks.take (k + 1) = ks.take k ++ [nth ks k] := by rw [List.take_succ_eq_append_getElem hlt, nth_lt hlt]
        rw [← hts, ← hq] at hstep
        have hpb : pressB m (q : Nat) (nth ks k) = true := by
          rw [pressB, M1.out, inB_at N9.out hlt]
          simp [wi]; omega
        obtain ⟨p1, p2⟩ := press_yes hpb
        rw [Int.toNat_natCast, ← hstep] at p1
        have hle : hrd m (ks.take (k + 1)) m.length ≤ m.length := hrd_le _ _ _
        have hle2 : hrd m (ks.take (k + 1)) m.length ≤ q + 1 := by
          rw [hstep]
          refine Nat.le_trans (hrd_short (Nat.le_refl _)) ?_
          simp; omega
        have hiff := heard_all (m := m) (ks := ks.take (k + 1))
        have HP := Lib.hid p1
        have HP2 := Lib.hid p2
        have HIFF := Lib.hid hiff
        have HOP := Lib.hid hop
        clear hstep hts hpb p1 p2 hiff hq hop hcase
        go_wp2_with fail
        refine (Press_any A1 c1 m q (nth ks k) wr hxr hl hc).mono ?_
        rintro e w2 ⟨rfl, hb2⟩
        rw [HP.out, HP2.out]
        obtain ⟨q', hq'⟩ : ∃ q', q' = hrd m (ks.take (k + 1)) m.length := ⟨_, rfl⟩
        rw [← hq'] at hle hle2 ⊢
        have HQ := Lib.hid hq'
        have hB2 : Below w.heap.size w w2 := hB.trans (hb2.mono hB.size)
        have g1 : decide ((q : Int) + 1 < (q' : Int)) = false := decide_eq_false (by omega)
        have g2 : decide (q + 1 < q') = false := decide_eq_false (by omega)
        clear hq' hb2 hcc hxr hyr
        by_cases he : q' = m.length
        · have g3 : ((q' : Int) == (m.length : Int)) = true := by simp [he]
          have hs := opn_yes HOP.out (HIFF.out.1 (by rw [← HQ.out]; exact he))
          have HO2 := Lib.hid (show n = ((k + 1 : Nat) : Int) by rw [HN.out, ← hs]; exact opn_stay (by omega) (by rw [hs]; omega))
          clear he hs
          go_wp2
          go_roundw
          case rel => exact ⟨k + 1, (k : Int) + 1, by omega, by go_num, hB2, rfl, q', rfl, .inr ⟨by omega, by omega, by rw [HO2.out]; omega⟩⟩
          case measure => simp [intOf]; omega
        · have g3 : ((q' : Int) == (m.length : Int)) = false := by simp; omega
          have HO2 := Lib.hid (opn_no HOP.out (fun h => he (by rw [HQ.out]; exact HIFF.out.2 h)))
          have hqlt : q' < m.length := by omega
          clear he
          go_wp2
          go_roundw
          case rel => exact ⟨k + 1, -1, by omega, by go_num, hB2, rfl, q', rfl, .inl ⟨rfl, q', rfl, HQ.out, hqlt, HO2.out⟩⟩
          case measure => simp [intOf]; omega
      · have hvn : v = n := by
          rcases hcase with ⟨h1, q, -, -, -, h5⟩ | ⟨h1, h2, h3⟩
          · have : k = ks.length := by
              rcases Nat.lt_or_ge k ks.length with h | h
              · exact absurd ⟨h, h1⟩ hcont
              · omega
            subst this
            rw [h1, HN.out, h5]
          · exact h3.symm
        have hneg : k < ks.length → ¬ v < 0 := fun h h' => by
          rcases hcase with ⟨h1, -⟩ | ⟨h1, -, -⟩
          · exact hcont ⟨h, h1⟩
          · omega
        subst hvn
        clear hcase hcont
        go_upto_region 7 with fail
        go_cut [32] from 25 to 32 (fun s wx => s = .bool false ∧ wx = wr)
        case first =>
          by_cases h1 : k < ks.length
          · have h2 := hneg h1
            clear hneg
            go_wp2_with fail
            go_meet
            exact ⟨rfl, rfl⟩
          · go_wp2_with fail
            go_meet
            exact ⟨rfl, rfl⟩
        case rest =>
          obtain ⟨rfl, hwc⟩ := hcut
          rw [hwc]
          clear hwc
          have g1 := bne_same v
          go_wp2_with fail
          obtain ⟨wo, hwo⟩ : ∃ wo : World, wo = wr := ⟨_, rfl⟩
          subst hwo
          clear hneg hxr hyr g1
          go_loopw [14] (fun i wr => ∃ k : Nat, k ≤ ks.length ∧ i = .int .i64 ((k + 1 : Nat) : Int) ∧ Below w.heap.size w wr) (fun i _ => ks.length + 1 - (intOf i).toNat)
          case atStart => exact ⟨0, Nat.zero_le _, rfl, hB⟩
          case round =>
            obtain ⟨j, hj1, rfl, hBj⟩ := hrel
            have hxr := (hx.below hBj (Nat.le_refl _)).more hBj.size
            have hyr := (hy.below hBj (Nat.le_refl _)).more hBj.size
            have hzr := (hz.below hBj (Nat.le_refl _)).more hBj.size
            clear hB
            by_cases hlt2 : j < ks.length
            · have htl : (ks.take (j + 1)).length = j + 1 := by rw [List.length_take]; omega
              have hkt := ints_take hyr (j + 1)
              have g1 : ((j + 1 : Nat) : Int) ≤ (ks.length : Int) := by omega
              have g2 : j + 1 ≤ ks.length := by omega
              have g3 : ((j + 1 : Nat) : Int).toNat = j + 1 := by omega
              have HTL := Lib.hid htl
              clear htl
              go_wp2_with fail
              refine (rEnds_n A2 A1 c2 c1 (j + 1) m.length (ks.take (j + 1)) m HTL.out rfl wr hkt hxr (by unfold maxLen; omega) hl).mono ?_
              rintro e w2 ⟨rfl, hb2⟩
              have hB2 : Below w.heap.size w w2 := hBj.trans (hb2.mono hBj.size)
              clear hb2 hxr hyr hzr hkt
              by_cases hg : v < 0 ∨ ((j + 1 : Nat) : Int) ≤ v
              · rw [opn_place HN.out (by omega) g2 hg]
                cases hq : (((j + 1 : Nat) : Int) == v)
                · have hq2 : ((j : Int) + 1 == v) = false := by rw [← hq]; simp
                  clear hg g1 g2 g3
                  go_wp2
                  go_roundw
                  case rel => exact ⟨j + 1, by omega, by go_num, hB2⟩
                  case measure => simp [intOf]; omega
                · have hq2 : ((j : Int) + 1 == v) = true := by rw [← hq]; simp
                  clear hg g1 g2 g3
                  go_wp2
                  go_roundw
                  case rel => exact ⟨j + 1, by omega, by go_num, hB2⟩
                  case measure => simp [intOf]; omega
              · have q1 : decide (v < 0) = false := decide_eq_false (fun h => hg (.inl h))
                have q2 : decide (((j + 1 : Nat) : Int) ≤ v) = false := decide_eq_false (fun h => hg (.inr h))
                have q3 : decide ((j : Int) + 1 ≤ v) = false := decide_eq_false (fun h => hg (.inr (by omega)))
                have q4 : (((j + 1 : Nat) : Int) == v) = false := by simp; intro e; exact hg (.inr (by omega))
                have q5 : ((j : Int) + 1 == v) = false := by simp; intro e; exact hg (.inr (by omega))
                clear hg g1 g2 g3
                cases m.isSuffixOf (ks.take (j + 1))
                all_goals
                  go_wp2
                  go_roundw
                  case rel => exact ⟨j + 1, by omega, by go_num, hB2⟩
                  case measure => simp [intOf]; omega
            · obtain rfl : j = ks.length := by omega
              have g1 : ¬ ((ks.length + 1 : Nat) : Int) ≤ (ks.length : Int) := by omega
              have g2 : decide (((ks.length + 1 : Nat) : Int) ≤ (ks.length : Int)) = false := decide_eq_false g1
              obtain ⟨wo, hwo⟩ : ∃ wo : World, wo = wr := ⟨_, rfl⟩
              subst hwo
              go_wp2_with (at_builtin; refine wpList_append_ints rfl _ _ rfl w.heap.size (.slice none 0 0) [] rfl (World.ownsRow_nil _ _ _ _) A3 c3 fr rfl hzr hn3 (by simp; omega) hBj.size ?_)
              intro v1 w1 hown1 hb1
              have hB1 : Below w.heap.size w w1 := hBj.trans hb1
              have hy1 := (hy.below hB1 (Nat.le_refl _)).more hB1.size
              clear hzr hyr hxr hb1 g1 g2
              go_wp2_with (at_builtin; refine wpList_append_ints rfl _ _ rfl w.heap.size _ fr rfl hown1 A2 c2 ks rfl hy1 hn2 (by omega) hB1.size ?_)
              intro v2 w2 hown2 hb2
              have hB2 : Below w.heap.size w w2 := hB1.trans hb2
              have hx2 := (hx.below hB2 (Nat.le_refl _)).more hB2.size
              have hown3 : w2.ownsRow w.heap.size 3 1 v2 (fr ++ ks).length ((fr ++ ks).map I) := by simpa using hown2
              obtain ⟨A4, c4, rfl, hi4, hm4, -⟩ := own_cap hown3
              have HLEN := Lib.hid (show (fr ++ ks).length = fr.length + ks.length from List.length_append)
              have hfront : ∀ t, t = fr ++ ks → openE m t = 0 → 0 ≤ v → ∃ q : Nat, openN m t = q ∧ (q : Int) ≤ fr.length + v := fun t ht h1 h2 => by
                subst ht
                obtain ⟨-, -, -, o4⟩ := open_ok h1
                rcases opn_cases m ks ks.length with ⟨a1, -⟩ | ⟨i, a1, a2, a3, a4, -⟩
                · rw [← HN.out] at a1; omega
                · obtain ⟨q, e1, e2⟩ := opn_front fr a2 a3 a4
                  rw [← HN.out] at a1
                  exact ⟨q, by rw [o4, e1], by omega⟩
              obtain ⟨t, ht⟩ : ∃ t, t = fr ++ ks := ⟨_, rfl⟩
              have hfr := hfront t ht
              rw [← ht] at hi4 hm4 ⊢
              clear hown1 hown2 hown3 hb2 hB1 hy1 ht hfront HLEN
              go_wp2_with fail
              refine (Opens_any A1 A4 c1 c4 m t w2 hx2 hi4 hl hm4 hc).mono ?_
              rintro e w3 ⟨rfl, hb3⟩
              have hB3 : Below w.heap.size w w3 := hB2.trans (hb3.mono hB2.size)
              clear hx2 hi4 hb3 hB2
              by_cases he2 : openE m t = 0
              · rw [he2]
                by_cases hvn : 0 ≤ v
                · obtain ⟨q, e1, e2⟩ := hfr he2 hvn
                  rw [e1]
                  have q1 : decide (v < 0) = false := decide_eq_false (by omega)
                  clear e1 hfr he2
                  have hvl : v ≤ 1000 := by
                    rcases opn_cases m ks ks.length with ⟨a1, -⟩ | ⟨i, a1, a2, a3, -⟩
                    · rw [← HN.out] at a1; omega
                    · rw [← HN.out] at a1; omega
                  have ew : IntKind.i64.wrap ((fr.length : Int) + v) = (fr.length : Int) + v := (IntWalk.i64_left _).trans (IntWalk.wrap64_in _ ⟨by omega, by omega⟩)
                  have q2 : decide ((q : Int) ≤ (fr.length : Int) + v) = true := decide_eq_true e2
                  go_wp2_with fail
                  refine (works_any w3).mono ?_
                  rintro e w6 ⟨rfl, hb6⟩
                  go_wp2
                  go_ret
                  exact ⟨rfl, hB3.trans (hb6.mono hB3.size)⟩
                · have q1 : decide (v < 0) = true := decide_eq_true (by omega)
                  clear hfr he2
                  go_wp2_with fail
                  refine (works_any w3).mono ?_
                  rintro e w6 ⟨rfl, hb6⟩
                  go_wp2
                  go_ret
                  exact ⟨rfl, hB3.trans (hb6.mono hB3.size)⟩
              · have q1 : (openE m t != 0) = true := by simpa using he2
                clear hfr he2
                go_wp2_with fail
                refine (works_any w3).mono ?_
                rintro e w6 ⟨rfl, hb6⟩
                go_wp2
                go_ret
                exact ⟨rfl, hB3.trans (hb6.mono hB3.size)⟩
  · have g1 : (openE m ks != 0) = true := by simpa using he
    generalize openE m ks = q2 at *
    generalize openN m ks = q1 at *
    clear he
    go_wp2_with fail
    refine (works_any w1).mono ?_
    rintro e w6 ⟨rfl, hb6⟩
    go_wp2
    go_ret
    exact ⟨rfl, hb1.trans (hb6.mono hb1.size)⟩
end Go.Proofs.Yteeppkhlnejfkaa
