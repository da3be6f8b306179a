/-
  Mathematics of the ciphers: a shift behind a shift, a mix behind a mix.
-/
import Derived.Test.YteeppkhlnejfkaaPzCipLaw
namespace Go.Proofs.Yteeppkhlnejfkaa
open Go.RowKit Go.Shelf
theorem ltr_ltr (x m : Int) : ltrI (ltrI x - 97 + m) = ltrI (x + m) := by
  simp only [ltrI]; omega
theorem shB_letter (n b : Int) : wi (shB n b) 97 122 = wi b 97 122 := by
  rw [shB]
  cases h : wi b 97 122
  · rw [if_neg (by decide), h]
  · rw [if_pos rfl]
    have := ltr_bounds (b - 97 + n)
    simp [wi]; omega
theorem shB_shB (n m b : Int) : shB m (shB n b) = shB (n + m) b := by
  cases h : wi b 97 122
  · have h1 : shB n b = b := by rw [shB, h]; rfl
    have h2 : shB (n + m) b = b := by rw [shB, h]; rfl
    rw [h1, h2, shB, h]; rfl
  · have h1 : shB n b = ltrI (b - 97 + n) := by rw [shB, h]; rfl
    have h2 : shB (n + m) b = ltrI (b - 97 + (n + m)) := by rw [shB, h]; rfl
    have h3 : wi (shB n b) 97 122 = true := by rw [shB_letter, h]
    rw [h2, shB, h3, if_pos rfl, h1, ltr_ltr, show b - 97 + n + m = b - 97 + (n + m) by omega]
theorem shB_round {n : Int} (b : Int) (h : n % 26 = 0) : shB n b = b := by
  rw [shB]
  cases hq : wi b 97 122
  · rfl
  · have hr : 97 ≤ b ∧ b ≤ 122 := by simpa [wi] using hq
    rw [if_pos rfl, ltrI]
    omega
/-- a text of these bytes -/
abbrev mvT (F : Nat → Int) (s : ByteArray) : ByteArray := ⟨(mvS F s).toArray⟩
theorem mvT_size (F : Nat → Int) (s : ByteArray) : (mvT F s).size = s.size := by
  rw [← mvS_length F s]; simp [ByteArray.size]
theorem mvT_at (F : Nat → Int) (s : ByteArray) (j : Nat) (h : j < s.size) : nth (bys (mvT F s)) j = mvB F s j := by
  have h1 : j < (mvS F s).length := by rw [mvS_length]; exact h
  rw [bys_at _ j (by simpa using h1), ← mvS_at F s j h1]
  simp
theorem mvT_lc (F : Nat → Int) (s : ByteArray) (j : Nat) (h : j ≤ s.size) : lc (mvT F s) j = lc s j := by
  induction j with
  | zero => rw [lc_zero, lc_zero]
  | succ j ih =>
    have hj : j < s.size := h
    rw [lc_succ _ j (by rw [mvT_size]; exact hj), lc_succ s j hj, ih (by omega), mvT_at F s j hj, mvB, shB_letter]
theorem mvT_mvT (F G : Nat → Int) (s : ByteArray) : mvT G (mvT F s) = mvT (fun m => F m + G m) s := by
  have : mvS G (mvT F s) = mvS (fun m => F m + G m) s := by
    refine u8_ext (by rw [mvS_length, mvS_length, mvT_size]) fun j h1 h2 => ?_
    have hj : j < s.size := by rwa [mvS_length] at h2
    rw [mvS_at, mvS_at, mvB, mvT_lc F s j (by omega), mvT_at F s j hj, mvB, shB_shB]
    rfl
  rw [mvT, this]
theorem mvT_round (F : Nat → Int) (s : ByteArray) (h : ∀ m, F m % 26 = 0) : mvT F s = s := by
  have : mvS F s = s.data.toList := by
    refine u8_ext (by rw [mvS_length]; simp) fun j h1 h2 => ?_
    have hj : j < s.data.size := by simpa using h2
    rw [mvS_at, mvB, shB_round _ (h _), bys_at s j hj]
    simp
  rw [mvT, this]
theorem shT_eq (n : Int) (s : ByteArray) : (⟨(shS n s).toArray⟩ : ByteArray) = mvT (fun _ => n) s := by rw [shS_eq]
/-- a shifted text -/
abbrev shT (n : Int) (s : ByteArray) : ByteArray := ⟨(shS n s).toArray⟩
theorem shT_shT (n m : Int) (s : ByteArray) : shT m (shT n s) = shT (n + m) s := by
  show (⟨(shS m ⟨(shS n s).toArray⟩).toArray⟩ : ByteArray) = ⟨(shS (n + m) s).toArray⟩
  rw [shT_eq n s, shT_eq m, shT_eq, mvT_mvT]
theorem shT_round {n : Int} (s : ByteArray) (h : n % 26 = 0) : shT n s = s := by
  show (⟨(shS n s).toArray⟩ : ByteArray) = s
  rw [shT_eq, mvT_round _ _ (fun _ => h)]
theorem mixS_back (key : ByteArray) (back : Bool) (s : ByteArray) : mixS key (!back) (mixS key back s) = s := by
  show mvT (mixF key !back) (mvT (mixF key back) s) = s
  rw [mvT_mvT]
  refine mvT_round _ _ fun m => ?_
  have : mixF key back m + mixF key (!back) m = 0 := by
    simp only [mixF]
    cases back <;> simp <;> omega
  rw [this]; rfl
theorem hit_back {s p : ByteArray} {n : Int} {k : Nat} (hk : k < 26) (h : (n + (k : Int)) % 26 = 0) (hp : hasS s p = true) : hasI (hits (shT n s) p 26) (k : Int) = true := by
  refine hits_mem hk ?_
  show hasS (shT k (shT n s)) p = true
  rw [shT_shT, shT_round _ h, hp]
end Go.Proofs.Yteeppkhlnejfkaa
