/-
  CONTRACTS: replaced with mix, mix, isKey, puzzles.Shift and puzzles.Mix in all cases.
-/
import Derived.Test.YteeppkhlnejfkaaPzMix
namespace Go.Proofs.Yteeppkhlnejfkaa
open Go.RowKit Go.Shelf
/-- a row of bytes, the first k of which have gone on -/
def ByF (F : Nat → Int) (s : ByteArray) (g k : Nat) (w : World) : Prop :=
  ∀ j, j < s.size → w.cell? ⟨g, j, none⟩ = some (.int .u8 (if j < k then mvB F s j else nth (bys s) j)) ∧ w.frozen? ⟨g, j, none⟩ = false
theorem ByF.below {F : Nat → Int} {s : ByteArray} {g k B : Nat} {w w' : World} (h : ByF F s g k w) (hb : Below B w w') (hg : g < B) : ByF F s g k w' :=
  fun j hj => ⟨(hb.cell (p := ⟨g, j, none⟩) hg).trans (h j hj).1, (hb.frozen (p := ⟨g, j, none⟩) hg).trans (h j hj).2⟩
theorem ByF.same {F : Nat → Int} {s : ByteArray} {g k : Nat} {w : World} (h : ByF F s g k w) (e : mvB F s k = nth (bys s) k) : ByF F s g (k + 1) w := by
  intro j hj
  obtain ⟨a, b⟩ := h j hj
  refine ⟨a.trans ?_, b⟩
  by_cases e1 : j < k
  · rw [if_pos e1, if_pos (by omega)]
  · by_cases e2 : j = k
    · subst e2; rw [if_neg e1, if_pos (by omega), e]
    · rw [if_neg e1, if_neg (by omega)]
theorem ByF.step {F : Nat → Int} {s : ByteArray} {g k : Nat} {w : World} {v : Int} (h : ByF F s g k w) (e : mvB F s k = v) : ByF F s g (k + 1) (w.setCell ⟨g, k, none⟩ (.int .u8 v)) := by
  intro j hj
  obtain ⟨a, b⟩ := h j hj
  refine ⟨?_, by rw [World.frozen?_setCell]; exact b⟩
  by_cases e2 : j = k
  · subst e2
    refine (World.cell?_setCell_same' w ⟨g, j, none⟩ _ (by rw [a]; rfl)).trans ?_
    rw [if_pos (by omega), e]
  · refine (World.cell?_setCell_other _ _ _ _ (by intro q; injection q with _ q; exact e2 q.symm)).trans (a.trans ?_)
    by_cases e1 : j < k
    · rw [if_pos e1, if_pos (by omega)]
    · rw [if_neg e1, if_neg (by omega)]
theorem ByF.all {F : Nat → Int} {s : ByteArray} {g : Nat} {w : World} (h : ByF F s g s.size w) : ∀ j (hj : j < (mvS F s).length), w.cell? ((⟨g, 0, none⟩ : Addr).add j) = some (.int .u8 ((mvS F s)[j].toNat : Int)) := by
  intro j hj
  have hj' : j < s.size := by rwa [mvS_length] at hj
  have hadd : (⟨g, 0, none⟩ : Addr).add j = ⟨g, j, none⟩ := by unfold Addr.add; split <;> simp_all
  rw [hadd, (h j hj').1, if_pos hj', mvS_at]
/-- a text that a mix gives -/
abbrev mixS (key : ByteArray) (back : Bool) (s : ByteArray) : ByteArray := ⟨(mvS (mixF key back) s).toArray⟩

set_option maxRecDepth 100000 in
set_option maxHeartbeats 1000000 in
theorem replacedMix_any (key : ByteArray) (back : Bool) (s : ByteArray) (g1 g2 : Nat) (w : World) (hg1 : w.cell? ⟨g1, 0, none⟩ = some (.string key)) (hg2 : w.cell? ⟨g2, 0, none⟩ = some (.bool back)) (hgb1 : g1 < w.heap.size) (hgb2 : g2 < w.heap.size) (hs : s.size ≤ 200) (hkey : isKeyB key = true) :
    Calls Try.prog 125 #[.string s, .func (.func 128) #[] #[.pointer (some ⟨g1, 0, none⟩), .pointer (some ⟨g2, 0, none⟩)]] w fun e w' => e = .returned (.string (mixS key back s)) ∧ Below w.heap.size w w' := by
  have hconv := run_bytes_of_string (P := Try.prog) w 9 83 5 s Try.underlying9 Try.underlying83 Try.underlying5
  generalize hC : bytesRow s (grownCap w s.size 0 5) = C at hconv
  generalize grownCap w s.size 0 5 = cap at hconv hC
  obtain ⟨w1, hw1⟩ : ∃ w1, w1 = w.drew.alloc (.cells C 5 (C.size, C.size + 1)) := ⟨_, rfl⟩
  rw [← hw1] at hconv
  have hR : ByF (mixF key back) s w.heap.size 0 w1 := by
    intro j hj
    rw [hw1]
    refine ⟨(World.cell?_alloc_mark w.drew C _ _ j).trans ?_, (World.frozen?_alloc_mark w.drew C _ _ _ j).trans ?_⟩
    · rw [← hC, bytesRow_at s cap j hj, if_neg (by omega), bys_at s j hj]
    · have : s.size ≤ C.size := by rw [← hC]; simp [bytesRow]
      simp; omega
  have hb1 : Below w.heap.size w w1 := by rw [hw1]; exact (Below.refl _ _).drew.alloc (Nat.le_refl _) _
  have hsz1 : w.heap.size < w1.heap.size := by rw [hw1]; simp
  have HR := Lib.hid hR
  clear hw1 hC hR
  go_enter Try.func125, Try.ntmps125
  go_wp2_with fail
  go_loopw [6, 13] (fun c i wr => ∃ k : Nat, k ≤ s.size ∧ i = .int .i64 k ∧ c = .int .i64 (lc s k : Nat) ∧ Hid (ByF (mixF key back) s w.heap.size k wr) ∧ Below w.heap.size w wr ∧ w.heap.size < wr.heap.size) (fun _ i _ => s.size - (intOf i).toNat)
  case atStart => exact ⟨0, Nat.zero_le _, rfl, rfl, HR, hb1, hsz1⟩
  case round =>
    obtain ⟨k, hk, rfl, rfl, HK, hB, hsz⟩ := hrel
    have hgX1 := (hB.cell (p := ⟨g1, 0, none⟩) hgb1).trans hg1
    have hgX2 := (hB.cell (p := ⟨g2, 0, none⟩) hgb2).trans hg2
    by_cases hlt : k < s.size
    · obtain ⟨hc, hf⟩ := HK.out k hlt
      rw [if_neg (Nat.lt_irrefl k)] at hc
      have hbd := bys_bounds s k
      have q1 := hbd.1
      have q2 := hbd.2
      have HS := Lib.hid (lc_succ s k hlt)
      have hml : lc s k ≤ 1000 := Nat.le_trans (lc_le s k) (by omega)
      have HM := Lib.hid (show mvB (mixF key back) s k = shB (mixF key back (lc s k)) (nth (bys s) k) from rfl)
      obtain ⟨m, hm⟩ : ∃ m, m = lc s k := ⟨_, rfl⟩
      rw [← hm] at HS HM hml
      rw [← hm]
      clear hbd hm
      obtain ⟨b, hbv⟩ : ∃ b, b = nth (bys s) k := ⟨_, rfl⟩
      rw [← hbv] at hc q1 q2 HM HS
      have HV := Lib.hid hbv
      clear hbv
      cases hq : wi b 97 122
      · have H2 := Lib.hid (show mvB (mixF key back) s k = nth (bys s) k by rw [HM.out, ← HV.out, shB, hq]; rfl)
        have HN := Lib.hid (show lc s (k + 1) = m by rw [HS.out, hq]; rfl)
        go_wp2_with (go_at_call 65; refine (within_any _ _ _ _).mono ?_; rintro e w' ⟨rfl, rfl⟩; rw [hq])
        go_roundw
        case rel => exact ⟨k + 1, by omega, by go_num, by rw [HN.out], Lib.hid (ByF.same HK.out H2.out), hB, hsz⟩
        case measure => simp [intOf]; omega
      · have hr : 97 ≤ b ∧ b ≤ 122 := by simpa [wi] using hq
        have r1 := hr.1
        have r2 := hr.2
        have hfb := mixF_bounds hkey back m
        have H2 := Lib.hid (show mvB (mixF key back) s k = ltrI (b - 97 + mixF key back m) by rw [HM.out, shB, hq]; rfl)
        have HN := Lib.hid (show lc s (k + 1) = m + 1 by rw [HS.out, hq]; rfl)
        have eu : IntKind.u8.wrap (b - 97) = b - 97 := by rw [IntKind.wrap_u8]; omega
        have hcall := mixLit_any key back g1 g2 m wr hgX1 hgX2 hkey hml
        obtain ⟨f, hfv⟩ : ∃ f, f = mixF key back m := ⟨_, rfl⟩
        rw [← hfv] at hfb H2 hcall
        have f1 := hfb.1
        have f2 := hfb.2
        have hadr : (⟨w.heap.size, k, none⟩ : Addr).block < wr.heap.size := hsz
        clear hr hfb hfv
        go_wp2_with (go_at_call 65; refine (within_any _ _ _ _).mono ?_; rintro e w' ⟨rfl, rfl⟩; rw [hq])
        refine hcall.mono ?_
        rintro e w3 ⟨rfl, hb3⟩
        have hc3 := (hb3.cell hadr).trans hc
        have hf3 := (hb3.frozen hadr).trans hf
        have HK3 := Lib.hid (ByF.below HK.out hb3 hsz)
        have hB3 : Below w.heap.size w w3 := hB.trans (hb3.mono hB.size)
        have hsz3 : w.heap.size < w3.heap.size := Nat.lt_of_lt_of_le hsz hb3.size
        clear hcall HK hc hf hgX1 hgX2 hb3
        go_wp2_with (go_at_call 149; go_must (refine (letter_any (b - 97 + f) _).mono ?_); rintro e w4 ⟨rfl, rfl⟩)
        go_roundw
        case rel => exact ⟨k + 1, by omega, by go_num, by rw [HN.out]; go_num, Lib.hid (ByF.step HK3.out H2.out), hB3.setCell (Nat.le_refl _) _, by simpa using hsz3⟩
        case measure => simp [intOf]; omega
    · obtain rfl : k = s.size := by omega
      have hback := run_convert_bytes_back (P := Try.prog) wr 83 9 5 ⟨w.heap.size, 0, none⟩ cap (mvS (mixF key back) s) Try.underlying83 Try.underlying5 Try.underlying9 (ByF.all HK.out)
      rw [mvS_length] at hback
      go_wp2_with fail
      go_ret
      exact ⟨rfl, hB⟩
theorem mix_any (key : ByteArray) (back : Bool) (s : ByteArray) (w : World) (hs : s.size ≤ 200) (hkey : isKeyB key = true) :
    Calls Try.prog 70 #[.string s, .string key, .bool back] w fun e w' => e = .returned (.string (mixS key back s)) ∧ Below w.heap.size w w' := by
  obtain ⟨w2, hw2⟩ : ∃ w2, w2 = (w.alloc (.cells #[.string key] 9)).alloc (.cells #[.bool back] 4) := ⟨_, rfl⟩
  have hb1 : Below w.heap.size w w2 := by rw [hw2]; exact ((Below.refl _ _).alloc (Nat.le_refl _) _).alloc (by simp) _
  have hs2 : w2.heap.size = w.heap.size + 2 := by rw [hw2]; simp
  have hg1 : w2.cell? ⟨w.heap.size, 0, none⟩ = some (.string key) := by
    rw [hw2]; exact (World.cell?_alloc_lt _ _ _ (by show w.heap.size < _; simp)).trans (alloc_cell _ _ _ 0)
  have hg2 : w2.cell? ⟨w.heap.size + 1, 0, none⟩ = some (.bool back) := by
    rw [hw2]
    simp
  have hcall := replacedMix_any key back s w.heap.size (w.heap.size + 1) w2 hg1 hg2 (by omega) (by omega) hs hkey
  go_enter Try.func70, Try.ntmps70
  go_wp2_with fail
  rw [← hw2]
  refine hcall.mono ?_
  rintro e w' ⟨rfl, hb⟩
  have hB := hb1.trans (hb.mono (by omega))
  clear hw2 hs2 hg1 hg2 hcall
  go_wp2
  go_ret
  exact ⟨rfl, hB⟩
theorem isKey_any (s : ByteArray) (w : World) (hs : s.size ≤ maxLen) :
    Calls Try.prog 69 #[.string s] w fun e w' => e = .returned (.bool (isKeyB s)) ∧ w' = w := by
  go_enter Try.func69, Try.ntmps69
  go_wp2_with fail
  refine (within_any _ _ _ _).mono ?_
  rintro e w' ⟨rfl, rfl⟩
  cases hq : wi s.size 1 12
  · have HM := Lib.hid (show isKeyB s = false by rw [isKeyB, hq]; rfl)
    clear hq
    go_wp2
    go_ret
    exact ⟨ret_bool HM.out.symm, rfl⟩
  · have HM := Lib.hid (show isKeyB s = (bys s).all (fun b => wi b 97 122) by rw [isKeyB, hq]; rfl)
    clear hq
    go_wp2_with fail
    refine (areLetters_any s w hs).mono ?_
    rintro e w' ⟨rfl, rfl⟩
    go_wp2
    go_ret
    exact ⟨ret_bool HM.out.symm, rfl⟩
end Go.Proofs.Yteeppkhlnejfkaa
