/-
  CONTRACTS of the reference: Ends, heard, Press, Opens.
-/
import Derived.Test.YteeppkhlnejfkaaPzMelC
namespace Go.Proofs.Yteeppkhlnejfkaa
open Go.RowKit Go.Shelf
theorem suffix_nth {x y : List Int} (h : y.length ≤ x.length) : y.isSuffixOf x = true ↔ ∀ i, i < y.length → nth x (x.length - y.length + i) = nth y i := by
  rw [List.isSuffixOf_iff_suffix, List.suffix_iff_eq_drop]
  constructor
  · intro e i hi
    simp only [nth]
    conv => rhs; rw [e]
    rw [List.getElem?_drop]
  · intro e
    refine nth_ext (by rw [List.length_drop]; omega) fun j hj => ?_
    rw [← e j hj]
    simp only [nth]
    rw [List.getElem?_drop]
theorem suffix_long {x y : List Int} (h : ¬ y.length ≤ x.length) : y.isSuffixOf x = false := by
  rw [Bool.eq_false_iff]
  intro e
  exact h (List.isSuffixOf_iff_suffix.1 e).length_le
set_option maxRecDepth 100000 in
set_option maxHeartbeats 2000000 in
theorem rEnds_any (A1 A2 : Option Addr) (k1 k2 : Nat) (x y : List Int) (w : World) (hx : IntsR w w.heap.size A1 x) (hy : IntsR w w.heap.size A2 y) (lx : x.length ≤ maxLen) (ly : y.length ≤ maxLen) :
    Calls Try.prog 61 #[.slice A1 x.length k1, .slice A2 y.length k2] w fun e w' => e = .returned (.bool (y.isSuffixOf x)) ∧ Below w.heap.size w w' := by
  unfold maxLen at lx ly
  by_cases hl : y.length ≤ x.length
  · have g1 : decide ((x.length : Int) < (y.length : Int)) = false := decide_eq_false (by omega)
    have g2 : decide (x.length < y.length) = false := decide_eq_false (by omega)
    obtain ⟨d, hd⟩ : ∃ d, d = x.length - y.length := ⟨_, rfl⟩
    have hdl : d + y.length = x.length := by omega
    have HSX := Lib.hid (suffix_nth hl)
    have HD := Lib.hid hd
    have HDL := Lib.hid hdl
    clear hd
    go_enter Try.func61, Try.ntmps61
    go_wp2
    go_loopw [5] (fun i wr => ∃ k : Nat, k ≤ y.length ∧ i = .int .i64 k ∧ Hid (∀ j, j < k → nth x (d + j) = nth y j) ∧ Below w.heap.size w wr) (fun i _ => y.length - (intOf i).toNat)
    case atStart => exact ⟨0, Nat.zero_le _, rfl, Lib.hid (fun j h => by omega), Below.refl _ _⟩
    case round =>
      obtain ⟨k, hk, rfl, HA, hB⟩ := hrel
      by_cases hlt : k < y.length
      · obtain ⟨a1, rfl, hb1, hc1⟩ := hx.at_ (k := d + k) (by omega)
        obtain ⟨a2, rfl, hb2, hc2⟩ := hy.at_ hlt
        have d1 := (hB.cell (p := a1.add (d + k)) (by rw [block_of_add]; omega)).trans hc1
        have d2 := (hB.cell (p := a2.add k) (by rw [block_of_add]; omega)).trans hc2
        have ew1 : IntKind.i64.wrap ((x.length : Int) - (y.length : Int)) = (d : Int) := by
          rw [show (x.length : Int) - (y.length : Int) = (d : Int) by omega]
          exact (IntWalk.i64_left _).trans (IntWalk.wrap64_in _ ⟨by omega, by omega⟩)
        have ew1' : (x.length : Int) - (y.length : Int) = (d : Int) := by omega
        have ew2 : IntKind.i64.wrap ((d : Int) + (k : Int)) = ((d + k : Nat) : Int) := by
          rw [show (d : Int) + (k : Int) = ((d + k : Nat) : Int) by omega]
          exact (IntWalk.i64_left _).trans (IntWalk.wrap64_in _ ⟨by omega, by omega⟩)
        have hb0 : d + k < x.length := by omega
        have hb0' : ((d + k : Nat) : Int) < (x.length : Int) := by omega
        have ht : ((d + k : Nat) : Int).toNat = d + k := by omega
        by_cases he : nth x (d + k) = nth y k
        · have hb3 : (nth x (d + k) != nth y k) = false := by simp [he]
          have HE := Lib.hid he
          clear he hc1 hc2 hdl hl
          go_wp2
          go_quiet (fail)
          go_wp2
          go_roundw
          case rel => exact ⟨k + 1, by omega, by go_num, Lib.hid (fun j hj => by rcases Nat.lt_succ_iff_lt_or_eq.1 hj with h | rfl; exact HA.out j h; exact HE.out), below_drewN hB _⟩
          case measure => simp [intOf]; omega
        · have hb3 : (nth x (d + k) != nth y k) = true := by simpa using he
          have HE := Lib.hid he
          clear he hc1 hc2 hdl hl
          go_wp2
          go_quiet (fail)
          go_wp2
          go_ret
          exact ⟨ret_bool' (by symm; rw [Bool.eq_false_iff]; intro e; exact HE.out (by rw [HD.out]; exact HSX.out.1 e k hlt)), below_drewN hB _⟩
      · obtain rfl : k = y.length := by omega
        go_wp2
        go_ret
        exact ⟨ret_bool' (by symm; exact HSX.out.2 (fun i hi => by have := HA.out i hi; rwa [HD.out] at this)), hB⟩
  · have g1 : decide ((x.length : Int) < (y.length : Int)) = true := decide_eq_true (by omega)
    have g2 : decide (x.length < y.length) = true := decide_eq_true (by omega)
    have HL := Lib.hid (suffix_long hl)
    clear hl
    go_enter Try.func61, Try.ntmps61
    go_wp2
    go_ret
    exact ⟨ret_bool' HL.out.symm, Below.refl _ _⟩
theorem rEnds_n (A1 A2 : Option Addr) (k1 k2 n1 n2 : Nat) (x y : List Int) (h1 : x.length = n1) (h2 : y.length = n2) (w : World) (hx : IntsR w w.heap.size A1 x) (hy : IntsR w w.heap.size A2 y) (lx : n1 ≤ maxLen) (ly : n2 ≤ maxLen) :
    Calls Try.prog 61 #[.slice A1 n1 k1, .slice A2 n2 k2] w fun e w' => e = .returned (.bool (y.isSuffixOf x)) ∧ Below w.heap.size w w' := by
  subst h1 h2
  exact rEnds_any A1 A2 k1 k2 x y w hx hy lx ly

set_option maxRecDepth 100000 in
set_option maxHeartbeats 2000000 in
theorem rheard_any (A1 A2 : Option Addr) (c1 c2 : Nat) (m ks : List Int) (w : World) (hx : IntsR w w.heap.size A1 m) (hy : IntsR w w.heap.size A2 ks) (hl : m.length ≤ 16) (hc : m.length ≤ c1) (hk : ks.length ≤ 1000) :
    Calls Try.prog 121 #[.slice A1 m.length c1, .slice A2 ks.length c2] w fun e w' => e = .returned (I (hrd m ks m.length : Nat)) ∧ Below w.heap.size w w' := by
  go_enter Try.func121, Try.ntmps121
  go_wp2_with fail
  go_loopw [5, 6] (fun n i wr => ∃ k : Nat, k ≤ m.length ∧ i = .int .i64 ((k + 1 : Nat) : Int) ∧ n = .int .i64 (hrd m ks k : Nat) ∧ Below w.heap.size w wr) (fun _ i _ => m.length + 1 - (intOf i).toNat)
  case atStart => exact ⟨0, Nat.zero_le _, rfl, rfl, Below.refl _ _⟩
  case round =>
    obtain ⟨k, hk1, rfl, rfl, hB⟩ := hrel
    have hxr := ints_call hB hx
    have hyr := ints_call hB hy
    by_cases hlt : k < m.length
    · have htl : (m.take (k + 1)).length = k + 1 := by rw [List.length_take]; omega
      have hmt := ints_take hxr (k + 1)
      have HH := Lib.hid (show hrd m ks (k + 1) = if isEnd m ks (k + 1) = true then k + 1 else hrd m ks k from rfl)
      have g1 : ((k + 1 : Nat) : Int) ≤ (m.length : Int) := by omega
      have g2 : k + 1 ≤ m.length := by omega
      have g3 : ((k + 1 : Nat) : Int).toNat = k + 1 := by omega
      have HTL := Lib.hid htl
      clear htl
      go_wp2_with fail
      refine (rEnds_n A2 A1 c2 c1 ks.length (k + 1) ks (m.take (k + 1)) rfl HTL.out wr hyr hmt (by unfold maxLen; omega) (by unfold maxLen; omega)).mono ?_
      rintro e w2 ⟨rfl, hb2⟩
      have hB2 : Below w.heap.size w w2 := hB.trans (hb2.mono hB.size)
      clear hb2 hxr hyr hmt
      cases hq : (m.take (k + 1)).isSuffixOf ks
      · have HQ := Lib.hid (show hrd m ks (k + 1) = hrd m ks k by rw [HH.out, if_neg (by rw [isEnd, hq]; decide)])
        clear hq
        go_wp2
        go_roundw
        case rel => exact ⟨k + 1, by omega, by go_num, by rw [HQ.out], hB2⟩
        case measure => simp [intOf]; omega
      · have HQ := Lib.hid (show hrd m ks (k + 1) = k + 1 by rw [HH.out, if_pos (by rw [isEnd, hq])])
        clear hq
        go_wp2
        go_roundw
        case rel => exact ⟨k + 1, by omega, by go_num, by rw [HQ.out]; go_num, hB2⟩
        case measure => simp [intOf]; omega
    · obtain rfl : k = m.length := by omega
      have g1 : ¬ ((m.length + 1 : Nat) : Int) ≤ (m.length : Int) := by omega
      have g2 : decide (((m.length + 1 : Nat) : Int) ≤ (m.length : Int)) = false := decide_eq_false g1
      go_wp2
      go_ret
      exact ⟨rfl, hB⟩

set_option maxRecDepth 100000 in
set_option maxHeartbeats 2000000 in
theorem rPress_any (A : Option Addr) (c : Nat) (m : List Int) (h key : Int) (w : World) (hx : IntsR w w.heap.size A m) (hl : m.length ≤ maxLen) (hc : m.length ≤ c) :
    Calls Try.prog 51 #[.slice A m.length c, I h, I key] w fun e w' => e = .returned (.tuple #[I (pressN m h key), I (pressE m h key)]) ∧ Below w.heap.size w w' := by
  have hl' := hl
  unfold maxLen at hl'
  go_enter Try.func51, Try.ntmps51
  go_wp2_with fail
  refine (tuned_any A c m w hx hl).mono ?_
  rintro e w' ⟨rfl, rfl⟩
  cases hm : melB m
  · have HE := Lib.hid (press_no (h := h) (key := key) (show pressB m h key = false by rw [pressB, hm]; rfl))
    clear hm
    go_wp2
    go_ret2
    exact ⟨by rw [HE.out.1, HE.out.2]; rfl, Below.refl _ _⟩
  · have hml := mel_len hm
    have HM := Lib.hid hm
    have hml1 := hml.1
    have hml2 := hml.2
    have ew : IntKind.i64.wrap ((m.length : Int) - 1) = (m.length : Int) - 1 := (IntWalk.i64_left _).trans (IntWalk.wrap64_in _ ⟨by omega, by omega⟩)
    clear hm hml
    go_wp2_with fail
    refine (rWithin_any _ _ _ _).mono ?_
    rintro e w'' ⟨rfl, rfl⟩
    clear ew
    cases hw : wi h 0 ((m.length : Int) - 1)
    · have HE := Lib.hid (press_no (h := h) (key := key) (show pressB m h key = false by rw [pressB, hw, Bool.and_false]; rfl))
      clear hw
      go_wp2
      go_ret2
      exact ⟨by rw [HE.out.1, HE.out.2]; rfl, Below.refl _ _⟩
    · have HW := Lib.hid hw
      obtain ⟨k, rfl, hk⟩ := wi_nat hw
      clear hw
      go_wp2_with fail
      refine (rWithin_any _ _ _ _).mono ?_
      rintro e w' ⟨rfl, rfl⟩
      cases hn : wi key 0 9
      · have HE := Lib.hid (press_no (h := (k : Nat)) (key := key) (show pressB m k key = false by rw [pressB, hn, Bool.and_false]))
        clear hn
        go_wp2
        go_ret2
        exact ⟨by rw [HE.out.1, HE.out.2]; rfl, Below.refl _ _⟩
      · have HE := Lib.hid (press_yes (h := (k : Nat)) (key := key) (show pressB m k key = true by rw [pressB, HM.out, HW.out, hn]; rfl))
        obtain ⟨w, hww⟩ : ∃ w : World, w = w' := ⟨_, rfl⟩
        subst hww
        obtain ⟨ad, rfl, hab, -⟩ := hx (by omega)
        obtain ⟨i0, hi, hz0, hz1, hz2⟩ := info_parts info_int
        have htl : (m.take k).length = k := by rw [List.length_take]; omega
        have hxt := ints_take hx k
        have hsrc : ∀ (j : Nat) (u : Value), ((m.take k).map I)[j]? = some u → w.cell? (ad.add j) = some u := by
          intro j u hj
          obtain ⟨h1, e⟩ := List.getElem?_eq_some_iff.1 hj
          rw [List.length_map] at h1
          obtain ⟨ad', hA, hbl, hcc⟩ := hxt.at_ h1
          injection hA with hA
          have hA' := hA.symm
          subst hA'
          rw [← e, List.getElem_map, ← nth_lt h1]
          exact hcc
        have hone : ∀ u ∈ (m.take k).map I, u.oneCell' = true := by intro u hu; obtain ⟨x, _, rfl⟩ := List.mem_map.1 hu; rfl
        have hlen : ((m.take k).map I).length = k * 1 := by rw [List.length_map, htl, Nat.mul_one]
        have HLEN := Lib.hid hlen
        have HTL := Lib.hid htl
        clear hn hlen htl
        go_wp2_with (at_builtin; refine wpList_append_own _ rfl _ _ 29 rfl w.heap.size 3 i0 (.int .i64 0) 1 8 Try.underlying29 hi hz0 hz1 hz2 rfl (by decide) (.slice none 0 0) 0 [] rfl (World.ownsRow_nil _ _ _ _) ad k c ((m.take k).map I) rfl HLEN.out hsrc hone ?a3 ?a4 ?a5 ?_)
        case a3 => unfold maxLen; omega
        case a4 => omega
        case a5 => exact Nat.le_refl _
        intro v w1 hown hgrow1 _
        have hb1 : Below w.heap.size w w1 := (Below.refl _ _).grown hgrow1 (Nat.le_refl _) (fun j hj => by cases hj)
        have hrow := hown.lt
        clear hsrc hone hxt hgrow1
        go_wp2_with (at_builtin; refine wpList_append_own _ rfl _ _ 29 rfl w.heap.size 3 i0 (.int .i64 0) 1 8 Try.underlying29 hi hz0 hz1 hz2 rfl (by decide) _ _ _ rfl (hown.alloc _) ⟨w1.heap.size, 0, none⟩ 1 1 [I key] rfl rfl ?c1 ?c2 ?c3 ?c4 ?c5 ?_)
        case c1 =>
          intro j u hj
          match j, hj with
          | 0, hj => simp at hj; subst hj; simp [Addr.add]
        case c2 => intro u hu; simp at hu; subst hu; rfl
        case c3 => unfold maxLen; omega
        case c4 => omega
        case c5 => exact Nat.le_trans hb1.size (by simp)
        intro v' w2 hown' hgrow _
        have hB2 : Below w.heap.size w w2 := (hb1.alloc hb1.size _).grown hgrow (by have := hb1.size; simp; omega) (fun j hj => (hrow j hj).1)
        obtain ⟨K, hK⟩ : ∃ K, K = m.take k ++ [key] := ⟨_, rfl⟩
        have hKl : K.length = k + 1 := by rw [hK, List.length_append, HTL.out]; rfl
        have hown2 : w2.ownsRow w.heap.size 3 1 v' K.length (K.map I) := by
          rw [hKl, hK, List.map_append, List.map_take]; simpa using hown'
        obtain ⟨A2, c2, rfl, hi2, hm2, hc2⟩ := own_cap hown2
        have HK := Lib.hid hK
        have hkl : K.length ≤ 1000 := by omega
        have hx2 := (hx.below hB2 (Nat.le_refl _)).more hB2.size
        clear hK hKl hown' hown2 hgrow hown hrow hb1
        go_wp2_with fail
        refine (rheard_any (some ad) A2 c c2 m K w2 hx2 hi2 hml2 hc hkl).mono ?_
        rintro e w3 ⟨rfl, hb3⟩
        go_wp2
        go_ret2
        exact ⟨by rw [HE.out.1, HE.out.2, Int.toNat_natCast, ← HK.out]; rfl, hB2.trans (hb3.mono hB2.size)⟩

set_option maxRecDepth 100000 in
set_option maxHeartbeats 2000000 in
theorem rOpens_any (A1 A2 : Option Addr) (c1 c2 : Nat) (m ks : List Int) (w : World) (hx : IntsR w w.heap.size A1 m) (hy : IntsR w w.heap.size A2 ks) (hl : m.length ≤ maxLen) (hlk : ks.length ≤ maxLen) (hck : ks.length ≤ c2) :
    Calls Try.prog 53 #[.slice A1 m.length c1, .slice A2 ks.length c2] w fun e w' => e = .returned (.tuple #[I (openN m ks), I (openE m ks)]) ∧ Below w.heap.size w w' := by
  have hlk' := hlk
  unfold maxLen at hlk'
  go_enter Try.func53, Try.ntmps53
  go_wp2_with fail
  refine (tuned_any A1 c1 m w hx hl).mono ?_
  rintro e w' ⟨rfl, rfl⟩
  cases hm : melB m
  · have HE := Lib.hid (show openN m ks = 0 ∧ openE m ks = 1 by constructor <;> simp [openN, openE, hm])
    clear hm
    go_wp2
    go_ret2
    exact ⟨by rw [HE.out.1, HE.out.2]; rfl, Below.refl _ _⟩
  · have hml := mel_len hm
    have hml1 := hml.1
    have hml2 := hml.2
    have HM := Lib.hid hm
    clear hm hml
    by_cases h2 : ks.length ≤ 200
    · have d1 : decide ((200 : Int) < (ks.length : Int)) = false := decide_eq_false (by omega)
      have d2 : decide (200 < ks.length) = false := decide_eq_false (by omega)
      go_wp2_with fail
      clear d1 d2
      go_loop [6] (fun i => ∃ k : Nat, k ≤ ks.length ∧ i = .int .i64 k ∧ Hid ((ks.take k).all (fun s => wi s 0 9) = true)) (fun i => ks.length - (intOf i).toNat)
      case atStart => exact ⟨0, Nat.zero_le _, rfl, Lib.hid rfl⟩
      case round =>
        obtain ⟨k, hk, rfl, HA⟩ := hrel
        by_cases hlt : k < ks.length
        · obtain ⟨ad, rfl, hb, hc⟩ := hy.at_ hlt
          cases hp : wi (nth ks k) 0 9
          · have hq : inB 0 9 ks = false := not_all (fun s => wi s 0 9) ks k hlt hp
            have HE := Lib.hid (show openN m ks = 0 ∧ openE m ks = 1 by constructor <;> simp [openN, openE, hq, HM.out, h2])
            clear hq
            go_wp2_with (go_at_call 67; refine (rWithin_any _ _ _ _).mono ?_; rintro e w' ⟨rfl, rfl⟩; rw [hp])
            go_ret2
            exact ⟨by rw [HE.out.1, HE.out.2]; rfl, Below.refl _ _⟩
          · go_wp2_with (go_at_call 67; refine (rWithin_any _ _ _ _).mono ?_; rintro e w' ⟨rfl, rfl⟩; rw [hp])
            go_round
            case rel => exact ⟨k + 1, by omega, by go_num, Lib.hid (all_take_snoc _ ks k hlt HA.out hp)⟩
            case measure => simp [intOf]; omega
        · obtain rfl : k = ks.length := by omega
          have hall := HA.out
          rw [List.take_length] at hall
          have HE := Lib.hid (show openN m ks = opn m ks ks.length ∧ openE m ks = 0 by constructor <;> simp [openN, openE, show inB 0 9 ks = true from hall, HM.out, h2])
          clear hall HA
          go_wp2_with fail
          go_loopw [7] (fun i wr => ∃ k : Nat, k ≤ ks.length ∧ i = .int .i64 ((k + 1 : Nat) : Int) ∧ Hid (opn m ks k = -1) ∧ Below w'.heap.size w' wr) (fun i _ => ks.length + 1 - (intOf i).toNat)
          case atStart => exact ⟨0, Nat.zero_le _, rfl, Lib.hid rfl, Below.refl _ _⟩
          case round =>
            obtain ⟨k, hk1, rfl, HO, hB⟩ := hrel
            have hxr := ints_call hB hx
            have hyr := ints_call hB hy
            by_cases hlt2 : k < ks.length
            · have htl : (ks.take (k + 1)).length = k + 1 := by rw [List.length_take]; omega
              have hkt := ints_take hyr (k + 1)
              have g1 : ((k + 1 : Nat) : Int) ≤ (ks.length : Int) := by omega
              have g2 : k + 1 ≤ ks.length := by omega
              have g3 : ((k + 1 : Nat) : Int).toNat = k + 1 := by omega
              have HTL := Lib.hid htl
              clear htl hlt
              go_wp2_with fail
              refine (rEnds_n A2 A1 c2 c1 (k + 1) m.length (ks.take (k + 1)) m HTL.out rfl wr hkt hxr (by unfold maxLen; omega) (by unfold maxLen; omega)).mono ?_
              rintro e w2 ⟨rfl, hb2⟩
              have hB2 : Below w'.heap.size w' w2 := hB.trans (hb2.mono hB.size)
              clear hb2 hxr hyr hkt
              cases hq : m.isSuffixOf (ks.take (k + 1))
              · have HO2 := Lib.hid (opn_no HO.out (fun h => by rw [List.isSuffixOf_iff_suffix.2 h] at hq; cases hq))
                clear hq
                go_wp2
                go_roundw
                case rel => exact ⟨k + 1, by omega, by go_num, HO2, hB2⟩
                case measure => simp [intOf]; omega
              · have hs := opn_yes HO.out (List.isSuffixOf_iff_suffix.1 hq)
                have HO2 := Lib.hid (show opn m ks ks.length = ((k + 1 : Nat) : Int) by rw [← hs]; exact opn_stay (by omega) (by rw [hs]; omega))
                clear hq hs
                go_wp2
                go_ret2
                exact ⟨by rw [HE.out.1, HE.out.2, HO2.out]; rfl, hB2⟩
            · obtain rfl : k = ks.length := by omega
              have g1 : ¬ ((ks.length + 1 : Nat) : Int) ≤ (ks.length : Int) := by omega
              have g2 : decide (((ks.length + 1 : Nat) : Int) ≤ (ks.length : Int)) = false := decide_eq_false g1
              go_wp2
              go_ret2
              exact ⟨by rw [HE.out.1, HE.out.2, HO.out]; rfl, hB⟩
    · have d1 : decide ((200 : Int) < (ks.length : Int)) = true := decide_eq_true (by omega)
      have d2 : decide (200 < ks.length) = true := decide_eq_true (by omega)
      have HE := Lib.hid (show openN m ks = 0 ∧ openE m ks = 2 by constructor <;> simp [openN, openE, HM.out, h2])
      go_wp2
      go_ret2
      exact ⟨by rw [HE.out.1, HE.out.2]; rfl, Below.refl _ _⟩
end Go.Proofs.Yteeppkhlnejfkaa
