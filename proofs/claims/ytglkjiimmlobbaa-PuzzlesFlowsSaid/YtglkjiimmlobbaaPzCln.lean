/-
  CONTRACT: slices.Clone of a list of numbers: the same list in memory of its own.
-/
import Derived.Test.YtglkjiimmlobbaaPzRep
import Derived.Lib.BufferMore
namespace Go.Proofs.Ytglkjiimmlobbaa
open Go.RowKit Go.Shelf
set_option maxRecDepth 100000 in
set_option maxHeartbeats 1000000 in
theorem clone_any (ad : Addr) (c : Nat) (l : List Int) (w : World) (hx : IntsR w w.heap.size (some ad) l) (hl : l.length ≤ 1000) :
    Calls Try.prog 115 #[.slice (some ad) l.length c] w fun e w' => ∃ v, e = .returned v ∧ w'.ownsRow w.heap.size 3 1 v l.length (l.map I) ∧ Below w.heap.size w w' := by
  obtain ⟨i0, hi0, hz0, hz1, hz2⟩ := info_parts info_int
  have hb1 : Below w.heap.size w (w.alloc (.cells #[] 3)) := (Below.refl _ _).alloc (Nat.le_refl _) _
  have hg1 : (w.alloc (.cells #[] 3)).heap[w.heap.size]? = some (.cells (([] : List Int).map I).toArray 3 (0, 0)) := alloc_obj _ _ _ rfl
  have hown : (w.alloc (.cells #[] 3)).ownsRow w.heap.size 3 1 (.slice (some ⟨w.heap.size, 0, none⟩) 0 0) 0 [] := own_block (x := []) hg1 (Nat.le_refl _) (Nat.zero_le _)
  have hsrc : ∀ (j : Nat) (u : Value), (l.map I)[j]? = some u → (w.alloc (.cells #[] 3)).cell? (ad.add j) = some u := by
    intro j u hj
    obtain ⟨h1, e⟩ := List.getElem?_eq_some_iff.1 hj
    rw [List.length_map] at h1
    obtain ⟨ad', hA, hbl, hc⟩ := hx.at_ h1
    injection hA with hA
    have hA' := hA.symm
    subst hA'
    rw [← e, List.getElem_map, ← nth_lt h1]
    exact (hb1.cell (by rw [block_of_add]; exact hbl)).trans hc
  have hone : ∀ u ∈ l.map I, u.oneCell' = true := by intro u hu; obtain ⟨x, _, rfl⟩ := List.mem_map.1 hu; rfl
  have hrow := hown.lt
  have hnil := fun W => Lib.run_eql_slice_some_nil (P := Try.prog) W ad l.length c Try.underlying29
  go_enter Try.func115, Try.ntmps115
  go_wp2_with (at_builtin; go_must (refine wpList_append_own _ rfl _ _ 29 rfl w.heap.size 3 i0 (.int .i64 0) 1 8 Try.underlying29 hi0 hz0 hz1 hz2 rfl (by decide) _ 0 [] rfl hown ad l.length c (l.map I) rfl (by simp) hsrc hone ?c3 ?c4 ?c5 ?_); rotate_right; intro v' w4 hown' hgrow _)
  case c3 => unfold maxLen; omega
  case c4 => omega
  case c5 => simp
  rw [Nat.zero_add, List.nil_append] at hown'
  go_ret
  exact ⟨v', rfl, hown', hb1.grown hgrow (by simp) (fun j hj => (hrow j hj).1)⟩
end Go.Proofs.Ytglkjiimmlobbaa
