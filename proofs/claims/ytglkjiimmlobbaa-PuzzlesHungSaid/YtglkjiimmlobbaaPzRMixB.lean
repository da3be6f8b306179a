/-
  CONTRACTS of the document's own answers: Shift, letters, Mix.
-/
import Derived.Test.YtglkjiimmlobbaaPzRMix
namespace Go.Proofs.Ytglkjiimmlobbaa
open Go.RowKit Go.Shelf
theorem shE_many {s : ByteArray} {n : Int} (h : ¬ s.size ≤ 200) : shE s n = 2 ∧ shV s n = ⟨#[]⟩ := by
  have h1 : txE s = 2 := by simp [txE, h]
  have h2 : shE s n = 2 := by rw [shE, fst2, h1, if_neg (by decide)]
  exact ⟨h2, by rw [shV, h2, if_neg (by decide)]⟩
theorem shE_arg {s : ByteArray} {n : Int} (h : s.size ≤ 200) (hn : wi n (-100) 100 = false) : shE s n = 1 ∧ shV s n = ⟨#[]⟩ := by
  have h1 : txE s = 0 := by simp [txE, h]
  have h2 : shE s n = 1 := by rw [shE, fst2, h1, hn]; rfl
  exact ⟨h2, by rw [shV, h2, if_neg (by decide)]⟩
theorem shE_fine {s : ByteArray} {n : Int} (h : s.size ≤ 200) (hn : wi n (-100) 100 = true) : shE s n = 0 ∧ shV s n = ⟨(shS n s).toArray⟩ := by
  have h1 : txE s = 0 := by simp [txE, h]
  have h2 : shE s n = 0 := by rw [shE, fst2, h1, hn]; rfl
  exact ⟨h2, by rw [shV, h2, if_pos rfl]⟩
theorem mxE_many {s key : ByteArray} {back : Bool} (h : ¬ s.size ≤ 200) : mxE s key = 2 ∧ mxV s key back = ⟨#[]⟩ := by
  have h1 : txE s = 2 := by simp [txE, h]
  have h2 : mxE s key = 2 := by rw [mxE, fst2, h1, if_neg (by decide)]
  exact ⟨h2, by rw [mxV, h2, if_neg (by decide)]⟩
theorem mxE_arg {s key : ByteArray} {back : Bool} (h : s.size ≤ 200) (hn : isKeyB key = false) : mxE s key = 1 ∧ mxV s key back = ⟨#[]⟩ := by
  have h1 : txE s = 0 := by simp [txE, h]
  have h2 : mxE s key = 1 := by rw [mxE, fst2, h1, hn]; rfl
  exact ⟨h2, by rw [mxV, h2, if_neg (by decide)]⟩
theorem mxE_fine {s key : ByteArray} {back : Bool} (h : s.size ≤ 200) (hn : isKeyB key = true) : mxE s key = 0 ∧ mxV s key back = mixS key back s := by
  have h1 : txE s = 0 := by simp [txE, h]
  have h2 : mxE s key = 0 := by rw [mxE, fst2, h1, hn]; rfl
  exact ⟨h2, by rw [mxV, h2, if_pos rfl]⟩

set_option maxHeartbeats 400000 in
theorem rShift_any (n : Int) (s : ByteArray) (w : World) (hs : s.size ≤ maxLen) :
    Calls Try.prog 20 #[.string s, I n] w fun e w' => e = .returned (.tuple #[.string (shV s n), I (shE s n)]) ∧ Below w.heap.size w w' := by
  unfold maxLen at hs
  by_cases h : s.size ≤ 200
  · have g1 : decide ((200 : Int) < (s.size : Int)) = false := decide_eq_false (by omega)
    have g2 : ¬ (200 : Int) < (s.size : Int) := by omega
    have g3 : decide (200 < s.size) = false := decide_eq_false (by omega)
    have g4 : ¬ 200 < s.size := by omega
    cases hq : wi n (-100) 100
    · have HE := Lib.hid (shE_arg h hq)
      go_enter Try.func20, Try.ntmps20
      go_wp2_with (go_at_call 67; refine (rWithin_any _ _ _ _).mono ?_; rintro e w' ⟨rfl, hww⟩; rw [hww, hq]; clear hww)
      go_ret2
      exact ⟨by rw [HE.out.1, HE.out.2]; rfl, Below.refl _ _⟩
    · have HE := Lib.hid (shE_fine h hq)
      go_enter Try.func20, Try.ntmps20
      go_wp2_with (first
        | (go_at_call 67; refine (rWithin_any _ _ _ _).mono ?_; rintro e w' ⟨rfl, hww⟩; rw [hww, hq]; clear hww)
        | (go_at_call 68; refine (rshift_any n s _ h).mono ?_; rintro e w2 ⟨rfl, hb⟩))
      go_ret2
      exact ⟨by rw [HE.out.1, HE.out.2]; rfl, hb⟩
  · have HE := Lib.hid (shE_many (n := n) h)
    have g1 : decide ((200 : Int) < (s.size : Int)) = true := decide_eq_true (by omega)
    have g3 : decide (200 < s.size) = true := decide_eq_true (by omega)
    have g4 : 200 < s.size := by omega
    go_enter Try.func20, Try.ntmps20
    go_wp2_with fail
    go_ret2
    exact ⟨by rw [HE.out.1, HE.out.2]; rfl, Below.refl _ _⟩

set_option maxHeartbeats 1000000 in
theorem rletters_any (s : ByteArray) (w : World) (hs : s.size ≤ maxLen) :
    Calls Try.prog 71 #[.string s] w fun e w' => e = .returned (.bool ((bys s).all (fun b => wi b 97 122))) ∧ w' = w := by
  unfold maxLen at hs
  have hbl := bys_length s
  go_enter Try.func71, Try.ntmps71
  go_wp2_with fail
  go_loop [3] (fun i => ∃ k : Nat, k ≤ s.size ∧ i = .int .i64 k ∧ Hid (((bys s).take k).all (fun b => wi b 97 122) = true)) (fun i => s.size - (intOf i).toNat)
  case atStart => exact ⟨0, Nat.zero_le _, rfl, Lib.hid rfl⟩
  case round =>
    obtain ⟨k, hk, rfl, HA⟩ := hrel
    by_cases hlt : k < s.size
    · have hx := sidx s k hlt
      have hkl : k < (bys s).length := by omega
      obtain ⟨b, hbv⟩ : ∃ b, b = nth (bys s) k := ⟨_, rfl⟩
      rw [← hbv] at hx
      have HV := Lib.hid hbv
      have hbb := bys_bounds s k
      rw [← hbv] at hbb
      have q1 := hbb.1
      have q2 := hbb.2
      clear hbv hbb
      cases hp : wi b 97 122
      · have H2 := Lib.hid (show (bys s).all (fun b => wi b 97 122) = false from not_all (fun b => wi b 97 122) _ k hkl (by rw [← HV.out]; exact hp))
        go_wp2_with (go_at_call 72; refine (rletter_any b _ q1 q2).mono ?_; rintro e w' ⟨rfl, hww⟩; rw [hww, hp]; clear hww)
        go_ret
        exact ⟨ret_bool H2.out.symm, rfl⟩
      · go_wp2_with (go_at_call 72; refine (rletter_any b _ q1 q2).mono ?_; rintro e w' ⟨rfl, hww⟩; rw [hww, hp]; clear hww)
        go_round
        case rel => exact ⟨k + 1, by omega, by go_num, Lib.hid (all_take_snoc (fun b => wi b 97 122) _ k hkl HA.out (by rw [← HV.out]; exact hp))⟩
        case measure => simp [intOf]; omega
    · obtain rfl : k = s.size := by omega
      go_wp2
      go_ret
      exact ⟨ret_bool (by have := HA.out; rw [← hbl, List.take_length] at this; exact this.symm), rfl⟩

set_option maxRecDepth 100000 in
set_option maxHeartbeats 1000000 in
theorem rMix_any (s key : ByteArray) (back : Bool) (w : World) (hs : s.size ≤ maxLen) (hk : key.size ≤ maxLen) :
    Calls Try.prog 22 #[.string s, .string key, .bool back] w fun e w' => e = .returned (.tuple #[.string (mxV s key back), I (mxE s key)]) ∧ Below w.heap.size w w' := by
  have hs' := hs
  unfold maxLen at hs'
  by_cases h : s.size ≤ 200
  · have g1 : decide ((200 : Int) < (s.size : Int)) = false := decide_eq_false (by omega)
    have g2 : ¬ (200 : Int) < (s.size : Int) := by omega
    have g3 : decide (200 < s.size) = false := decide_eq_false (by omega)
    have g4 : ¬ 200 < s.size := by omega
    cases hq : wi key.size 1 12
    · have HE := Lib.hid (mxE_arg (back := back) h (show isKeyB key = false by rw [isKeyB, hq]; rfl))
      go_enter Try.func22, Try.ntmps22
      go_wp2_with (go_at_call 67; refine (rWithin_any _ _ _ _).mono ?_; rintro e w' ⟨rfl, hww⟩; rw [hww, hq]; clear hww)
      go_ret2
      exact ⟨by rw [HE.out.1, HE.out.2]; rfl, Below.refl _ _⟩
    · have HQ := Lib.hid hq
      cases ha : (bys key).all (fun b => wi b 97 122)
      · have HE := Lib.hid (mxE_arg (back := back) h (show isKeyB key = false by rw [isKeyB, hq, ha]; rfl))
        go_enter Try.func22, Try.ntmps22
        go_wp2_with (first
          | (go_at_call 67; refine (rWithin_any _ _ _ _).mono ?_; rintro e w' ⟨rfl, hww⟩; rw [hww, hq]; clear hww)
          | (go_at_call 71; refine (rletters_any key _ hk).mono ?_; rintro e w' ⟨rfl, hww⟩; rw [hww, ha]; clear hww))
        go_ret2
        exact ⟨by rw [HE.out.1, HE.out.2]; rfl, Below.refl _ _⟩
      · have hkey : isKeyB key = true := by rw [isKeyB, hq, ha]; rfl
        have HE := Lib.hid (mxE_fine (back := back) h hkey)
        have HKEY := Lib.hid hkey
        have HL := Lib.hid (mvS_length (mixF key back) s)
        go_enter Try.func22, Try.ntmps22
        go_wp2_with (first
          | (go_at_call 67; refine (rWithin_any _ _ _ _).mono ?_; rintro e w' ⟨rfl, hww⟩; rw [hww, hq]; clear hww)
          | (go_at_call 71; refine (rletters_any key _ hk).mono ?_; rintro e w' ⟨rfl, hww⟩; rw [hww, ha]; clear hww))
        clear ha hkey hq
        obtain ⟨F, hF⟩ : ∃ F, F = mixF key back := ⟨_, rfl⟩
        have HF := Lib.hid hF
        rw [← hF] at HL
        clear hF
        go_loopw [8, 9, 10] (fun v m i wr => ∃ k : Nat, k ≤ s.size ∧ i = .int .i64 k ∧ m = .int .i64 (lc s k : Nat) ∧ wr.ownsRow w.heap.size 5 1 v k (((mvS F s).map u8V).take k) ∧ Below w.heap.size w wr) (fun _ _ i _ => s.size - (intOf i).toNat)
        case atStart => exact ⟨0, Nat.zero_le _, rfl, rfl, World.ownsRow_nil _ _ _ _, Below.refl _ _⟩
        case round =>
          obtain ⟨k, hk1, rfl, rfl, hown, hB⟩ := hrel
          obtain ⟨v, hv⟩ : ∃ v : Value, v = u8 := ⟨_, rfl⟩
          subst hv
          by_cases hlt : k < s.size
          · have hx := sidx s k hlt
            have hbb := bys_bounds s k
            have HS0 := Lib.hid (lc_succ s k hlt)
            have hml : lc s k ≤ 1000 := Nat.le_trans (lc_le s k) (by omega)
            have HM := Lib.hid (show mvB F s k = shB (mixF key back (lc s k)) (nth (bys s) k) by rw [HF.out]; rfl)
            obtain ⟨b, hbv⟩ : ∃ b, b = nth (bys s) k := ⟨_, rfl⟩
            obtain ⟨m, hm⟩ : ∃ m, m = lc s k := ⟨_, rfl⟩
            rw [← hbv] at hx hbb HM HS0
            rw [← hm] at HM HS0 hml
            rw [← hm]
            have q1 := hbb.1
            have q2 := hbb.2
            clear hbv hbb hm
            obtain ⟨i0, hi, hz0, hz1, hz2⟩ := info_parts info_u8
            have hrow := hown.lt
            cases hq : wi b 97 122
            · have HS := Lib.hid (mv_snoc F s k hlt (show mvB F s k = b by rw [HM.out, shB, hq]; rfl))
              have HN := Lib.hid (show lc s (k + 1) = m by rw [HS0.out, hq]; rfl)
              go_wp2_with (first
                | (go_at_call 72; refine (rletter_any b _ q1 q2).mono ?_; rintro e w' ⟨rfl, hww⟩; rw [hww, hq]; clear hww)
                | (at_builtin; refine wpList_append_own _ rfl _ _ 83 rfl w.heap.size 5 i0 (.int .u8 0) 1 1 Try.underlying83 hi hz0 hz1 hz2 rfl (by decide) v k _ rfl (hown.alloc _) ⟨wr.heap.size, 0, none⟩ 1 1 [.int .u8 b] rfl rfl ?c1 ?c2 ?c3 ?c4 ?c5 ?_))
              case c1 =>
                intro j u hj
                match j, hj with
                | 0, hj => simp at hj; subst hj; simp [Addr.add]
              case c2 => intro u hu; simp at hu; subst hu; rfl
              case c3 => unfold maxLen; omega
              case c4 => omega
              case c5 => have := hB.size; simp; omega
              intro v' w4 hown' hgrow _
              have hown4 := hown'
              rw [HS.out] at hown4
              have hB4 : Below w.heap.size w w4 := (hB.alloc hB.size _).grown hgrow (by have := hB.size; simp; omega) (fun j hj => (hrow j hj).1)
              clear hown' hgrow hown hrow
              go_wp2
              go_roundw
              case rel => exact ⟨k + 1, by omega, by go_num, by rw [HN.out], hown4, hB4⟩
              case measure => simp [intOf]; omega
            · have hr : 97 ≤ b ∧ b ≤ 122 := by simpa [wi] using hq
              have r1 := hr.1
              have r2 := hr.2
              clear hr
              have hks := key_size HKEY.out
              obtain ⟨d, hd⟩ : ∃ d, d = m % key.size := ⟨_, rfl⟩
              have hdl : d < key.size := by rw [hd]; exact Nat.mod_lt _ hks.1
              have hb := key_at HKEY.out _ hdl
              have t1 := hb.1
              have t2 := hb.2
              have he : (m : Int) % (key.size : Int) = (d : Int) := by rw [hd]; rfl
              have hxk := sidx key _ hdl
              have hy1 := hks.1
              have hy2 := hks.2
              obtain ⟨c, hcv⟩ : ∃ c, c = nth (bys key) d := ⟨_, rfl⟩
              rw [← hcv] at hxk t1 t2
              have HC := Lib.hid (show mixF key back m = if back then -(c - 97) else c - 97 by rw [hcv, hd]; rfl)
              have eu : IntKind.u8.wrap (c - 97) = c - 97 := by rw [IntKind.wrap_u8]; omega
              have hn1 : key.size ≠ 0 := by omega
              have hn2 : ¬ (key.size : Int) = 0 := by omega
              have hn4 : ¬ key = ByteArray.empty := by intro e; subst e; exact hn1 rfl
              have hn3 : ((key.size : Int) == 0) = false := by simp; exact hn4
              have HN := Lib.hid (show lc s (k + 1) = m + 1 by rw [HS0.out, hq]; rfl)
              clear hb hcv hks hd
              cases back
              · have HS := Lib.hid (mv_snoc F s k hlt (show mvB F s k = ltrI (b - 97 + (c - 97)) by rw [HM.out, shB, hq, HC.out]; rfl))
                go_wp2_with (first
                  | (go_at_call 72; refine (rletter_any b _ q1 q2).mono ?_; rintro e w' ⟨rfl, hww⟩; rw [hww, hq]; clear hww)
                  | (go_at_call 73; refine (rmoved_any b (c - 97) _ r1 r2).mono ?_; rintro e w' ⟨rfl, hww⟩; rw [hww]; clear hww)
                  | (at_builtin; refine wpList_append_own _ rfl _ _ 83 rfl w.heap.size 5 i0 (.int .u8 0) 1 1 Try.underlying83 hi hz0 hz1 hz2 rfl (by decide) v k _ rfl (hown.alloc _) ⟨wr.heap.size, 0, none⟩ 1 1 [.int .u8 (ltrI (b - 97 + (c - 97)))] rfl rfl ?c1 ?c2 ?c3 ?c4 ?c5 ?_))
                case c1 =>
                  intro j u hj
                  match j, hj with
                  | 0, hj => simp at hj; subst hj; simp [Addr.add]
                case c2 => intro u hu; simp at hu; subst hu; rfl
                case c3 => unfold maxLen; omega
                case c4 => omega
                case c5 => have := hB.size; simp; omega
                intro v' w4 hown' hgrow _
                have hown4 := hown'
                rw [HS.out] at hown4
                have hB4 : Below w.heap.size w w4 := (hB.alloc hB.size _).grown hgrow (by have := hB.size; simp; omega) (fun j hj => (hrow j hj).1)
                clear hown' hgrow hown hrow
                go_wp2
                go_roundw
                case rel => exact ⟨k + 1, by omega, by go_num, by rw [HN.out]; go_num, hown4, hB4⟩
                case measure => simp [intOf]; omega
              · have HS := Lib.hid (mv_snoc F s k hlt (show mvB F s k = ltrI (b - 97 + -(c - 97)) by rw [HM.out, shB, hq, HC.out]; rfl))
                go_wp2_with (first
                  | (go_at_call 72; refine (rletter_any b _ q1 q2).mono ?_; rintro e w' ⟨rfl, hww⟩; rw [hww, hq]; clear hww)
                  | (go_at_call 73; refine (rmoved_any b (-(c - 97)) _ r1 r2).mono ?_; rintro e w' ⟨rfl, hww⟩; rw [hww]; clear hww)
                  | (at_builtin; refine wpList_append_own _ rfl _ _ 83 rfl w.heap.size 5 i0 (.int .u8 0) 1 1 Try.underlying83 hi hz0 hz1 hz2 rfl (by decide) v k _ rfl (hown.alloc _) ⟨wr.heap.size, 0, none⟩ 1 1 [.int .u8 (ltrI (b - 97 + -(c - 97)))] rfl rfl ?c1 ?c2 ?c3 ?c4 ?c5 ?_))
                case c1 =>
                  intro j u hj
                  match j, hj with
                  | 0, hj => simp at hj; subst hj; simp [Addr.add]
                case c2 => intro u hu; simp at hu; subst hu; rfl
                case c3 => unfold maxLen; omega
                case c4 => omega
                case c5 => have := hB.size; simp; omega
                intro v' w4 hown' hgrow _
                have hown4 := hown'
                rw [HS.out] at hown4
                have hB4 : Below w.heap.size w w4 := (hB.alloc hB.size _).grown hgrow (by have := hB.size; simp; omega) (fun j hj => (hrow j hj).1)
                clear hown' hgrow hown hrow
                go_wp2
                go_roundw
                case rel => exact ⟨k + 1, by omega, by go_num, by rw [HN.out]; go_num, hown4, hB4⟩
                case measure => simp [intOf]; omega
          · obtain rfl : k = s.size := by omega
            have hl : (mvS F s).length = s.size := HL.out
            have hown1 : wr.ownsRow w.heap.size 5 1 v (mvS F s).length ((mvS F s).map u8V) := by
              rw [hl]; rwa [List.take_of_length_le (by rw [List.length_map]; omega)] at hown
            obtain ⟨A, c, rfl, hback⟩ := own_str _ hown1
            rw [hl] at hback ⊢
            clear hown hown1 hl
            go_wp2_with fail
            go_ret2
            exact ⟨by rw [HE.out.1, HE.out.2, mixS, ← HF.out]; rfl, hB⟩
  · have HE := Lib.hid (mxE_many (key := key) (back := back) h)
    have g1 : decide ((200 : Int) < (s.size : Int)) = true := decide_eq_true (by omega)
    have g3 : decide (200 < s.size) = true := decide_eq_true (by omega)
    have g4 : 200 < s.size := by omega
    go_enter Try.func22, Try.ntmps22
    go_wp2_with fail
    go_ret2
    exact ⟨by rw [HE.out.1, HE.out.2]; rfl, Below.refl _ _⟩
end Go.Proofs.Ytglkjiimmlobbaa
