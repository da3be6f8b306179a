/-
  CONTRACTS of the document's own answers: letter, moved, shift, Shift.
-/
import Derived.Test.YtglkjiimmlobbaaPzC
import Derived.Test.YtglkjiimmlobbaaPzRWgh
namespace Go.Proofs.Ytglkjiimmlobbaa
open Go.RowKit Go.Shelf
theorem rletter_any (b : Int) (w : World) (h1 : 0 ≤ b) (h2 : b ≤ 255) :
    Calls Try.prog 72 #[.int .u8 b] w fun e w' => e = .returned (.bool (wi b 97 122)) ∧ w' = w := by
  by_cases h : 97 ≤ b
  all_goals
    go_enter Try.func72, Try.ntmps72
    go_wp2
    go_ret
    exact ⟨ret_bool (by simp [wi]; omega), rfl⟩
theorem rmoved_any (b n : Int) (w : World) (h1 : 97 ≤ b) (h2 : b ≤ 122) :
    Calls Try.prog 73 #[.int .u8 b, I n] w fun e w' => e = .returned (.int .u8 (ltrI (b - 97 + n))) ∧ w' = w := by
  have b1 : -26 < n.tmod 26 := Int.lt_tmod_of_pos n (by decide)
  have b2 : n.tmod 26 < 26 := Int.tmod_lt_of_pos n (by decide)
  have eu : IntKind.u8.wrap (b - 97) = b - 97 := by rw [IntKind.wrap_u8]; omega
  have b3 : 0 ≤ b - 97 + n.tmod 26 + 26 := by omega
  have b4 := Int.tmod_nonneg (a := b - 97 + n.tmod 26 + 26) 26 b3
  have b5 := Int.tmod_lt_of_pos (b - 97 + n.tmod 26 + 26) (b := 26) (by decide)
  have he : (b - 97 + n.tmod 26) % 26 = (b - 97 + n) % 26 := by
    have := tmod_mod n
    omega
  have HE := Lib.hid he
  clear he
  go_enter Try.func73, Try.ntmps73
  go_wp2
  go_ret
  exact ⟨by rw [ltrI, ← HE.out]; rfl, rfl⟩
/-- a byte as it lies in memory -/
abbrev u8V (b : UInt8) : Value := .int .u8 (b.toNat : Int)
theorem info_u8 : (Try.prog.info? 5).map (fun i => (i.zero, i.size, i.bytes)) = some (some (.int .u8 0), 1, 1) := by kernel_rfl
theorem own_str {w : World} {base : Nat} {v : Value} (l : List UInt8) (h : w.ownsRow base 5 1 v l.length (l.map u8V)) :
    ∃ (A : Option Addr) (c : Nat), v = .slice A l.length c ∧ (convert 83 9 (.slice A l.length c)).run Try.prog w = .ok (.string ⟨l.toArray⟩) w := by
  rcases h.2 with ⟨rfl, h0⟩ | ⟨g, cap, cur, rfl, _, hg, h1, h2, h3, h4⟩
  · have hl : l = [] := List.eq_nil_of_length_eq_zero h0
    subst hl
    exact ⟨none, 0, rfl, run_convert_bytes_nil w 83 5 Try.underlying83 Try.underlying5 0 0 9 Try.underlying9⟩
  · refine ⟨some ⟨g, 0, none⟩, cap, rfl, run_convert_bytes_back w 83 9 5 ⟨g, 0, none⟩ cap l Try.underlying83 Try.underlying5 Try.underlying9 fun j hj => ?_⟩
    have hadd : (⟨g, 0, none⟩ : Addr).add j = ⟨g, j, none⟩ := by unfold Addr.add; split <;> simp_all
    rw [hadd]
    have hc : w.cell? ⟨g, j, none⟩ = cur[j]? := by
      have hg' : w.heap[g]? = some (.cells cur.toList.toArray 5 (0, 0)) := by simpa using hg
      have := cell_of_row w g j _ _ _ hg'
      simpa using this
    rw [hc, ← Array.getElem?_toList]
    have h5 : (cur.toList.take (l.length * 1))[j]? = some (u8V l[j]) := by rw [h4]; simp [hj]
    rwa [List.getElem?_take_of_lt (by omega)] at h5
theorem mv_snoc (F : Nat → Int) (s : ByteArray) (k : Nat) (hk : k < s.size) {v : Int} (e : mvB F s k = v) : ((mvS F s).map u8V).take k ++ [.int .u8 v] = ((mvS F s).map u8V).take (k + 1) := by
  have hk' : k < (mvS F s).length := by rwa [mvS_length]
  rw [List.take_add_one, List.getElem?_map, List.getElem?_eq_getElem hk', ← e, ← mvS_at F s k hk']; rfl

set_option maxRecDepth 100000 in
set_option maxHeartbeats 1000000 in
theorem rshift_any (n : Int) (s : ByteArray) (w : World) (hs : s.size ≤ 200) :
    Calls Try.prog 68 #[.string s, I n] w fun e w' => e = .returned (.string ⟨(shS n s).toArray⟩) ∧ Below w.heap.size w w' := by
  rw [shS_eq]
  obtain ⟨F, hF⟩ : ∃ F : Nat → Int, F = fun _ => n := ⟨_, rfl⟩
  rw [← hF]
  have HF := Lib.hid hF
  clear hF
  have HL := Lib.hid (mvS_length F s)
  go_enter Try.func68, Try.ntmps68
  go_wp2_with fail
  go_loopw [5, 6] (fun v i wr => ∃ k : Nat, k ≤ s.size ∧ i = .int .i64 k ∧ wr.ownsRow w.heap.size 5 1 v k (((mvS F s).map u8V).take k) ∧ Below w.heap.size w wr) (fun _ i _ => s.size - (intOf i).toNat)
  case atStart => exact ⟨0, Nat.zero_le _, rfl, World.ownsRow_nil _ _ _ _, Below.refl _ _⟩
  case round =>
    obtain ⟨k, hk, rfl, hown, hB⟩ := hrel
    obtain ⟨v, hv⟩ : ∃ v : Value, v = u5 := ⟨_, rfl⟩
    subst hv
    by_cases hlt : k < s.size
    · have hx := sidx s k hlt
      have hbb := bys_bounds s k
      have HM := Lib.hid (show mvB F s k = shB n (nth (bys s) k) by rw [HF.out]; rfl)
      obtain ⟨b, hbv⟩ : ∃ b, b = nth (bys s) k := ⟨_, rfl⟩
      rw [← hbv] at hx hbb HM
      have q1 := hbb.1
      have q2 := hbb.2
      clear hbv hbb
      obtain ⟨i0, hi, hz0, hz1, hz2⟩ := info_parts info_u8
      have hrow := hown.lt
      cases hq : wi b 97 122
      · have HS := Lib.hid (mv_snoc F s k hlt (show mvB F s k = b by rw [HM.out, shB, hq]; rfl))
        go_wp2_with (first
          | (go_at_call 72; refine (rletter_any b _ q1 q2).mono ?_; rintro e w' ⟨rfl, hww⟩; rw [hww, hq]; clear hww)
          | (at_builtin; refine wpList_append_own _ rfl _ _ 83 rfl w.heap.size 5 i0 (.int .u8 0) 1 1 Try.underlying83 hi hz0 hz1 hz2 rfl (by decide) v k _ rfl (hown.alloc _) ⟨wr.heap.size, 0, none⟩ 1 1 [.int .u8 b] rfl rfl ?c1 ?c2 ?c3 ?c4 ?c5 ?_))
        case c1 =>
          intro j u hj
          match j, hj with
          | 0, hj => simp at hj; subst hj; simp [Addr.add]
        case c2 => intro u hu; simp at hu; subst hu; rfl
        case c3 => unfold maxLen; omega
        case c4 => omega
        case c5 => have := hB.size; simp; omega
        intro v' w4 hown' hgrow _
        have hown4 := hown'
        rw [HS.out] at hown4
        have hB4 : Below w.heap.size w w4 := (hB.alloc hB.size _).grown hgrow (by have := hB.size; simp; omega) (fun j hj => (hrow j hj).1)
        clear hown' hgrow hown hrow
        go_wp2
        go_roundw
        case rel => exact ⟨k + 1, by omega, by go_num, hown4, hB4⟩
        case measure => simp [intOf]; omega
      · have hr : 97 ≤ b ∧ b ≤ 122 := by simpa [wi] using hq
        have r1 := hr.1
        have r2 := hr.2
        clear hr
        have HS := Lib.hid (mv_snoc F s k hlt (show mvB F s k = ltrI (b - 97 + n) by rw [HM.out, shB, hq]; rfl))
        go_wp2_with (first
          | (go_at_call 72; refine (rletter_any b _ q1 q2).mono ?_; rintro e w' ⟨rfl, hww⟩; rw [hww, hq]; clear hww)
          | (go_at_call 73; refine (rmoved_any b n _ r1 r2).mono ?_; rintro e w' ⟨rfl, hww⟩; rw [hww]; clear hww)
          | (at_builtin; refine wpList_append_own _ rfl _ _ 83 rfl w.heap.size 5 i0 (.int .u8 0) 1 1 Try.underlying83 hi hz0 hz1 hz2 rfl (by decide) v k _ rfl (hown.alloc _) ⟨wr.heap.size, 0, none⟩ 1 1 [.int .u8 (ltrI (b - 97 + n))] rfl rfl ?c1 ?c2 ?c3 ?c4 ?c5 ?_))
        case c1 =>
          intro j u hj
          match j, hj with
          | 0, hj => simp at hj; subst hj; simp [Addr.add]
        case c2 => intro u hu; simp at hu; subst hu; rfl
        case c3 => unfold maxLen; omega
        case c4 => omega
        case c5 => have := hB.size; simp; omega
        intro v' w4 hown' hgrow _
        have hown4 := hown'
        rw [HS.out] at hown4
        have hB4 : Below w.heap.size w w4 := (hB.alloc hB.size _).grown hgrow (by have := hB.size; simp; omega) (fun j hj => (hrow j hj).1)
        clear hown' hgrow hown hrow
        go_wp2
        go_roundw
        case rel => exact ⟨k + 1, by omega, by go_num, hown4, hB4⟩
        case measure => simp [intOf]; omega
    · obtain rfl : k = s.size := by omega
      have hl : (mvS F s).length = s.size := HL.out
      have hown1 : wr.ownsRow w.heap.size 5 1 v (mvS F s).length ((mvS F s).map u8V) := by
        rw [hl]; rwa [List.take_of_length_le (by rw [List.length_map]; omega)] at hown
      obtain ⟨A, c, rfl, hback⟩ := own_str _ hown1
      rw [hl] at hback ⊢
      clear hown hown1 hl
      go_wp2_with fail
      go_ret
      exact ⟨rfl, hB⟩
end Go.Proofs.Ytglkjiimmlobbaa
