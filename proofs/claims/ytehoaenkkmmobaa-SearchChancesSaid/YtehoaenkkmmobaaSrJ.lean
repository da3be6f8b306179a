/-
  LAYER 6: CONTRACTS: first, behind.
-/
import Derived.Test.YtehoaenkkmmobaaSrI
namespace Go.Proofs.Ytehoaenkkmmobaa
open Go.RowKit Go.Shelf
theorem firM_at {mem : List Lk} {p k : Nat} (hk : k < mem.length) (ht : (mem.toArray[k]!.1 == p) = true) (h : ∀ j, j < k → (mem.toArray[j]!.1 == p) = false) : firM mem p = mem.toArray[k]!.2 := by
  have e : ∀ j (hj : j < mem.length), mem.toArray[j]! = mem[j] := fun j hj => by rw [getElem!_pos _ _ (by simpa using hj)]; simp
  have : mem.find? (fun l => l.1 == p) = some mem[k] := by
    rw [List.find?_eq_some_iff_getElem]
    refine ⟨by rw [← e k hk]; exact ht, k, hk, rfl, fun j hj => ?_⟩
    have := h j hj
    rw [e j (by omega)] at this
    simp [this]
  rw [firM, this, e k hk]
  rfl
set_option maxRecDepth 100000 in
set_option maxHeartbeats 2000000 in
theorem memFirst_any (base P : Nat) (vP : Value) (AE AD : Option Addr) (nE cE nD cD : Nat) (mo tu : Int) (at_ : Nat) (vL vB vT : Value) (lost : Bool) (B : Nat) (mem : List Lk) (p : Nat) (w : World)
    (hP : PlAt w P (plC vP AE AD nE cE nD cD mo tu at_ vL B vB lost vT)) (hL : LRow w base vL mem) (hml : mem.length ≤ 300) (hp : ∃ q ∈ mem, q.1 = p) :
    Calls Try.prog 104 #[.pointer (some ⟨P, 6, none⟩), I p] w fun e w' => e = .returned (I (firM mem p)) ∧ w.grownBy w' none := by
  obtain ⟨w1, hw1, hs1, y0, hb1⟩ := one_box w (.cells #[I p] 3)
  have hg1 : w.grownBy w1 none := by rw [hw1]; exact World.grownBy_alloc _ _ _
  have hP1 : PlAt w1 P _ := hP.kept hg1 (by simp)
  have b0 : w1.cell? ⟨w.heap.size, 0, none⟩ = some (I p) := cell_of_row w1 _ 0 _ _ _ y0
  obtain ⟨q, hq, hqp⟩ := hp
  obtain ⟨rfl, rfl⟩ | ⟨g, off, c, N, F, rfl, h1, h2, h3, h4, h5, h6⟩ := hL
  · cases hq
  have b6 : w1.cell? ⟨P, 6, none⟩ = some (.slice (some ⟨g, off, none⟩) mem.length c) := cell_of_row w1 _ 6 _ _ _ hP1
  have h31 := h3.kept hg1 (by simp)
  have hidx : Calls Try.prog 116 #[.slice (some ⟨g, off, none⟩) mem.length c, .func (.func 117) #[] #[.pointer (some ⟨w.heap.size, 0, none⟩)]] w1 fun e w' => ∃ k : Nat, e = .returned (I k) ∧ k < mem.length ∧ firM mem p = mem.toArray[k]!.2 ∧ w1.grownBy w' none := by
    have hI := indexLk_any 117 #[.pointer (some ⟨w.heap.size, 0, none⟩)] (fun args w => enters_of Try.func117 (by kernel_rfl) rfl args w) (fun x => x.1 == p) g off c N F mem.toArray w1 (fun W x hW => first1_any x p w.heap.size W (hW.cell b0 (fun e => by cases e))) h31 h6 (by rw [List.size_toArray]; omega) (by rw [List.size_toArray]; omega)
    rw [List.size_toArray] at hI
    refine hI.mono ?_
    rintro e w' ⟨r, rfl, hr, hg⟩
    rcases hr with ⟨rfl, hall⟩ | ⟨k, rfl, hk, ht, hall⟩
    · exfalso
      obtain ⟨j, hj, e⟩ := List.getElem_of_mem hq
      have := hall j (by simpa using hj)
      rw [getElem!_pos _ _ (by simpa using hj)] at this
      simp at this
      rw [e] at this
      exact this hqp
    · exact ⟨k, rfl, by simpa using hk, firM_at (by simpa using hk) ht hall, hg⟩
  have H6 := Lib.hid h6
  clear hP hP1 y0 h3 h6 hq hqp
  go_enter Try.func104, Try.ntmps104
  go_upto_region 1 with fail
  rw [← hw1]
  clear hw1
  go_upto_region 2 with (go_at_call 116; refine hidx.mono ?_; rintro e w2 ⟨k, rfl, hk, hfm, hg2⟩)
  have b6 := hg2.cell b6 (by simp)
  have hR2 := h31.kept hg2 (by simp)
  obtain ⟨-, e1⟩ := H6.out k (by simpa using hk)
  have c1 : w2.cell? ⟨g, off + k * 2 + 1, none⟩ = some (I mem.toArray[k]!.2) := (hR2.at_ (by omega)).trans (by rw [e1])
  have HF := Lib.hid hfm
  have hg3 := grown_trans hg1 hg2
  obtain ⟨y, hy⟩ : ∃ y, y = mem.toArray[k]!.2 := ⟨_, rfl⟩
  rw [← hy] at c1 HF
  clear e1 hR2 hfm hidx hy
  go_wp2_with fail
  go_ret
  exact ⟨by rw [HF.out]; rfl, hg3⟩
set_option maxRecDepth 100000 in
set_option maxHeartbeats 2000000 in
theorem behind_any (vP : Value) (AE AD : Option Addr) (cE cD : Nat) (G : List (List Ed)) (D : List Int) (p k : Nat) (w : World) (hm : MdR w AE AD G D) (hv : Vld G D) (hp : p < G.length) (hk : k < (eOf G p).length) :
    Calls Try.prog 98 #[mdlV vP AE AD G.length cE D.length cD, lkV (p, k)] w fun e w' => e = .returned (I (tgt (eOf G) p k)) ∧ Below w.heap.size w w' := by
  obtain ⟨w1, hw1, hs1, y0, hb1⟩ := one_box w (.cells #[vP, .slice AE G.length cE, .slice AD D.length cD] 64)
  obtain ⟨w2, hw2, hs2, y1, hb2⟩ := one_box w1 (.cells #[I p, I k] 71)
  have hkg : k < G[p].length := by rw [← eOf_len hp]; exact hk
  obtain ⟨hto, -⟩ := eOf_tgt hv hp hkg
  have hm2 := (hm.call hb1).call hb2
  have y0' := (hb2.block w.heap.size (by omega)).trans y0
  rw [hs1] at y1
  have b1 : w2.cell? ⟨w.heap.size, 1, none⟩ = some (.slice AE G.length cE) := cell_of_row w2 _ 1 _ _ _ y0'
  have d0 : w2.cell? ⟨w.heap.size + 1, 0, none⟩ = some (I p) := cell_of_row w2 _ 0 _ _ _ y1
  have d1 : w2.cell? ⟨w.heap.size + 1, 1, none⟩ = some (I k) := cell_of_row w2 _ 1 _ _ _ y1
  obtain ⟨g, o, rfl, hgl, Ap, cp, hcA, hed⟩ := hm2.g.at_ hp
  obtain ⟨g2, o2, rfl, hg2, -, -, -, c3⟩ := hed.at_ hkg
  rw [hto] at c3
  have HB := Lib.hid (show Below w.heap.size w w2 from hb1.trans (hb2.mono hb1.size))
  obtain ⟨y, hy⟩ : ∃ y, y = tgt (eOf G) p k := ⟨_, rfl⟩
  rw [← hy] at c3
  have HY := Lib.hid hy
  have s1 : w.heap.size < w2.heap.size := by omega
  have s2 : w.heap.size + 1 < w2.heap.size := by omega
  have hmx := hv.many
  have hfe := hv.few p hp
  have hw12 := hw2
  rw [hw1] at hw12
  clear hm hm2 hed y0 y1 y0' hto hy hk hb1 hb2 hw1 hw2 hs1 hs2
  go_enter Try.func98, Try.ntmps98
  go_upto_region 1 with fail
  rw [← hw12]
  clear hw12
  go_quiet (fail)
  go_wp2
  go_ret
  exact ⟨by rw [← HY.out]; rfl, below_drewN HB.out _⟩
end Go.Proofs.Ytehoaenkkmmobaa
