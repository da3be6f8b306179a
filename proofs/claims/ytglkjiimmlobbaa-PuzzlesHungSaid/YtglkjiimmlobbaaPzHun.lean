/-
  LISTS OF SENTENCES IN MEMORY THAT THE CALL ITSELF MADE: append onto nil a whole list, then one more; the law's earlier.
-/
import Derived.Test.YtglkjiimmlobbaaPzHunP
import Derived.Test.YtglkjiimmlobbaaPzSame
namespace Go.Proofs.Ytglkjiimmlobbaa
open Go.RowKit Go.Shelf
def porCells (ps : List Por) : List Value := ps.flatMap (fun p => (porC p).toList)
theorem porC_len (p : Por) : (porC p).toList.length = 5 := rfl
theorem porCells_length (ps : List Por) : (porCells ps).length = ps.length * 5 := by
  induction ps with
  | nil => rfl
  | cons t ts ih => rw [porCells, List.flatMap_cons, List.length_append, porC_len, ← porCells, ih, List.length_cons]; omega
theorem porCells_at (ps : List Por) : ∀ (j : Nat) (hj : j < ps.length) (i : Nat), i < 5 → (porCells ps)[j * 5 + i]? = (porC ps[j])[i]? := by
  induction ps with
  | nil => intro j hj; simp at hj
  | cons t ts ih =>
    intro j hj i hi
    rw [porCells, List.flatMap_cons, ← porCells]
    cases j with
    | zero =>
      rw [Nat.zero_mul, Nat.zero_add, List.getElem?_append_left (by rw [porC_len]; exact hi)]
      simp
    | succ j =>
      rw [List.getElem?_append_right (by rw [porC_len]; omega), porC_len, show (j + 1) * 5 + i - 5 = j * 5 + i by omega, ih j (by simpa using hj) i hi]
      rfl
theorem porCells_one (ps : List Por) : ∀ u ∈ porCells ps, u.oneCell' = true := by
  intro u hu
  obtain ⟨t, -, h⟩ := List.mem_flatMap.1 hu
  simp only [porC, List.mem_cons, List.not_mem_nil, or_false] at h
  rcases h with rfl | rfl | rfl | rfl | rfl <;> rfl
theorem porCells_snoc (ps : List Por) (p : Por) : porCells (ps ++ [p]) = porCells ps ++ (porC p).toList := by
  simp [porCells]
theorem plain_addP (g o j : Nat) : (⟨g, o, none⟩ : Addr).add j = ⟨g, o + j, none⟩ := by unfold Addr.add; split <;> simp_all
theorem por_cells {w : World} {B : Nat} {A : Option Addr} {ps : List Por} (h : PorR w B A ps) : 0 < ps.length → ∃ g o : Nat, A = some ⟨g, o, none⟩ ∧ g < B ∧ ∀ j u, (porCells ps)[j]? = some u → w.cell? ((⟨g, o, none⟩ : Addr).add j) = some u := by
  intro h0
  obtain ⟨g, o, e, hg, hc⟩ := h h0
  refine ⟨g, o, e, hg, fun j u hu => ?_⟩
  have hj : j < ps.length * 5 := by
    have := (List.getElem?_eq_some_iff.1 hu).1
    rwa [porCells_length] at this
  have hq : j / 5 < ps.length := by omega
  have hr : j % 5 < 5 := Nat.mod_lt _ (by decide)
  have hjj : j = j / 5 * 5 + j % 5 := by omega
  have h3 := porCells_at ps (j / 5) hq (j % 5) hr
  rw [← hjj, hu] at h3
  have h4 := hc (j / 5) hq (j % 5) u h3.symm
  rw [plain_addP]
  rwa [show o + j / 5 * 5 + j % 5 = o + j by omega] at h4
abbrev OwnP (w : World) (B n : Nat) (u : Value) (ps : List Por) : Prop := w.ownsRow B 71 5 u n (porCells ps)
theorem own_por {w : World} {B n : Nat} {v : Value} {ps : List Por} (h : OwnP w B n v ps) (hn : n = ps.length) : ∃ (A : Option Addr) (c : Nat), v = .slice A ps.length c ∧ PorR w w.heap.size A ps := by
  subst hn
  rcases h.2 with ⟨rfl, h0⟩ | ⟨g, cap, cur, rfl, _, hh, h1, h2, h3, h4⟩
  · exact ⟨none, 0, by simp [h0], fun hh => absurd hh (by simp [h0])⟩
  · refine ⟨some ⟨g, 0, none⟩, cap, rfl, fun _ => ⟨g, 0, rfl, (Array.getElem?_eq_some_iff.1 hh).1, fun j hj i u hu => ?_⟩⟩
    have hi : i < 5 := by
      have := (Array.getElem?_eq_some_iff.1 hu).1
      simpa [porC] using this
    have h5 : (porCells ps)[j * 5 + i]? = some u := by
      rw [porCells_at ps j hj i hi]
      exact hu
    rw [← h4, List.getElem?_take_of_lt (by have := Nat.mul_le_mul_right 5 (Nat.succ_le_of_lt hj); omega)] at h5
    rw [show 0 + j * 5 + i = j * 5 + i by omega]
    have hh' : w.heap[g]? = some (.cells cur.toList.toArray 71 (0, 0)) := by simpa using hh
    rw [cell_of_row w g _ _ _ _ hh']
    simpa using h5
theorem info_por : (Try.prog.info? 71).map (fun i => (i.zero, i.size, i.bytes)) = some (some (.agg #[.int .i64 0, .int .i64 0, .int .i64 0, .int .i64 0, .bool false]), 5, 40) := by kernel_rfl
theorem wp_append_pors {o : Oper} {a : Act} {w : World} {K : Act → World → Prop} {Q : Exit → Act → World → Prop} (s x : Operand)
    (ho : o.op = .call { callee := .builtin .append, args := #[s, x], argTypes := #[56, 56] })
    (hs : a.eval s = .slice none 0 0) (A : Option Addr) (c : Nat) (ps : List Por) (hx : a.eval x = .slice A ps.length c) (hp : PorR w w.heap.size A ps) (hl : ps.length < 20) (B : Nat) (hB : B ≤ w.heap.size)
    (h : ∀ v' w', OwnP w' B ps.length v' ps → w.grownBy w' none → K (a.put o.dst v') w') : o.wp Try.prog a w K Q := by
  obtain ⟨i0, hi, hz0, hz1, hz2⟩ := info_parts info_por
  rcases Nat.eq_zero_or_pos ps.length with h0 | h0
  · have : ps = [] := List.eq_nil_of_length_eq_zero h0
    subst this
    have hrun : (Builtin.append_ #[56, 56] o.type #[.slice none 0 0, .slice A 0 c]).run Try.prog w = .ok (.slice none 0 0) w := by
      cases A <;> simp [Builtin.append_, run_underlying Try.underlying56, sizeOf, typeInfo, hi, Builtin.lenOf, Builtin.firstCells, loadCells, loadCellsFrom]
    unfold Oper.wp execOp
    simp only [List.length_nil] at hx
    simp only [ho, resolve, invoke, builtin, Sem.run_bind, Sem.run_pure, Result.andThen_ok, List.map_toArray, List.map_cons, List.map_nil, hs, hx, hrun]
    exact h _ w (World.ownsRow_nil _ _ _ _) ⟨rfl, rfl, rfl, Nat.le_refl _, fun _ _ _ => rfl⟩
  · obtain ⟨g, off, rfl, -, hcells⟩ := por_cells hp h0
    refine wp_append_own _ s x 56 ho B 71 i0 _ 5 40 Try.underlying56 hi hz0 hz1 hz2 rfl (by decide) (.slice none 0 0) 0 [] hs (World.ownsRow_nil _ _ _ _) ⟨g, off, none⟩ ps.length c (porCells ps) hx (porCells_length ps) hcells (porCells_one ps) (by unfold maxLen; omega) (by omega) hB ?_
    intro v' w' h1 h2 _
    rw [Nat.zero_add, List.nil_append] at h1
    exact h v' w' h1 h2
theorem wp_append_por {o : Oper} {a : Act} {w : World} {K : Act → World → Prop} {Q : Exit → Act → World → Prop} (s x : Operand)
    (ho : o.op = .call { callee := .builtin .append, args := #[s, x], argTypes := #[56, 56] })
    (v : Value) (hs : a.eval s = v) (ps : List Por) (n : Nat) (B : Nat) (hB : B ≤ w.heap.size) (hown : OwnP w B n v ps) (hl : n < 20)
    (b : Nat) (t : Por) (hx : a.eval x = .slice (some ⟨b, 0, none⟩) 1 1) (hb : w.heap[b]? = some (.cells (porC t) 71 (0, 0)))
    (h : ∀ v' w', OwnP w' B (n + 1) v' (ps ++ [t]) → w.grownBy w' v.ownBlock → K (a.put o.dst v') w') : o.wp Try.prog a w K Q := by
  obtain ⟨i0, hi, hz0, hz1, hz2⟩ := info_parts info_por
  refine wp_append_own _ s x 56 ho B 71 i0 _ 5 40 Try.underlying56 hi hz0 hz1 hz2 rfl (by decide) v n (porCells ps) hs hown ⟨b, 0, none⟩ 1 1 (porC t).toList hx (by rw [porC_len]) ?_ ?_ (by unfold maxLen; omega) (by omega) hB ?_
  · intro j u hu
    rw [plain_addP, cell_of_row w b _ _ _ _ hb, Nat.zero_add]
    simpa using hu
  · intro u hu
    exact porCells_one [t] u (by rw [porCells]; simpa using hu)
  · intro v' w' h1 h2 _
    rw [← porCells_snoc] at h1
    exact h v' w' h1 h2
theorem below_own {w w1 w2 : World} {B n : Nat} {v : Value} {xs : List Value} {e : TypeId} {s : Nat} (hb : Below B w w1) (ho : w1.ownsRow B e s v n xs) (hg : w1.grownBy w2 v.ownBlock) (hB : B ≤ w.heap.size) : Below B w w2 := by
  refine ⟨hg.os.trans hb.os, hg.tape.trans hb.tape, hg.output.trans hb.output, Nat.le_trans hb.size hg.size, fun k hk => ?_⟩
  refine (hg.block k (by have := hb.size; omega) fun e => ?_).trans (hb.block k hk)
  have := (ho.lt k e.symm).1
  omega
theorem below_nil {w w1 w2 : World} {B : Nat} (hb : Below B w w1) (hg : w1.grownBy w2 none) (hB : B ≤ w.heap.size) : Below B w w2 :=
  ⟨hg.os.trans hb.os, hg.tape.trans hb.tape, hg.output.trans hb.output, Nat.le_trans hb.size hg.size, fun k hk => (hg.block k (by have := hb.size; omega) (by simp)).trans (hb.block k hk)⟩
def OneP (w : World) (B : Nat) (u : Value) (t : Por) : Prop := ∃ b, u = .slice (some ⟨b, 0, none⟩) 1 1 ∧ B ≤ b ∧ w.heap[b]? = some (.cells (porC t) 71 (0, 0))
theorem OneP.grown {w w' : World} {B : Nat} {u : Value} {t : Por} (h : OneP w B u t) (hg : w.grownBy w' none) : OneP w' B u t := by
  obtain ⟨b, e, h1, h2⟩ := h
  exact ⟨b, e, h1, (hg.block b (Array.getElem?_eq_some_iff.1 h2).1 (by simp)).trans h2⟩
theorem OneP.alloc {w : World} {B : Nat} (t : Por) (hB : B ≤ w.heap.size) : OneP (w.alloc (.cells (porC t) 71)) B (.slice (some ⟨w.heap.size, 0, none⟩) 1 1) t :=
  ⟨w.heap.size, rfl, hB, alloc_obj _ _ _ rfl⟩
theorem not_bumpedP {L : Array Bool} {i : Nat} (hi : i < L.size) (h : (L.setIfInBounds i true).getD i false = false) : False := by
  rw [set_same hi] at h
  cases h

set_option maxHeartbeats 400000 in
theorem earlier_any (A1 A2 : Option Addr) (k1 k2 : Nat) (x y : List Int) (w : World) (hx : IntsR w w.heap.size A1 x) (hy : IntsR w w.heap.size A2 y) (lx : x.length ≤ 1000) (_ly : y.length ≤ 1000) :
    Calls Try.prog 58 #[.slice A1 x.length k1, .slice A2 y.length k2] w fun e w' => e = .returned (.bool (earB x y)) ∧ Below w.heap.size w w' := by
  go_enter Try.func58, Try.ntmps58
  go_wp2
  go_loopw [5] (fun i wr => ∃ k : Nat, k ≤ x.length ∧ k ≤ y.length ∧ i = .int .i64 k ∧ Hid (∀ j, j < k → nth x j = nth y j) ∧ Below w.heap.size w wr) (fun i _ => x.length - (intOf i).toNat)
  case atStart => exact ⟨0, Nat.zero_le _, Nat.zero_le _, rfl, Lib.hid (fun j h => by omega), Below.refl _ _⟩
  case round =>
    obtain ⟨k, hk, hk2, rfl, HA, hB⟩ := hrel
    by_cases hlt : k < x.length
    · by_cases hlt2 : k < y.length
      · obtain ⟨a1, rfl, hb1, hc1⟩ := hx.at_ hlt
        obtain ⟨a2, rfl, hb2, hc2⟩ := hy.at_ hlt2
        have d1 := (hB.cell (p := a1.add k) (by rw [block_of_add]; omega)).trans hc1
        have d2 := (hB.cell (p := a2.add k) (by rw [block_of_add]; omega)).trans hc2
        by_cases he : nth x k = nth y k
        · have hb3 : (nth x k != nth y k) = false := by simp [he]
          have HE := Lib.hid he
          clear he hc1 hc2
          go_wp2
          go_quiet (fail)
          go_wp2
          go_roundw
          case rel => exact ⟨k + 1, by omega, by omega, by go_num, Lib.hid (fun j hj => by rcases Nat.lt_succ_iff_lt_or_eq.1 hj with h | rfl; exact HA.out j h; exact HE.out), below_drewN hB _⟩
          case measure => simp [intOf]; omega
        · have hb3 : (nth x k != nth y k) = true := by simpa using he
          have HE := Lib.hid (earB_hit hlt hlt2 HA.out he)
          clear he hc1 hc2
          go_wp2
          go_quiet (fail)
          go_wp2
          go_quiet (fail)
          go_wp2
          go_ret
          exact ⟨ret_bool' HE.out.symm, below_drewN (below_drewN hB _) _⟩
      · have HM := Lib.hid (earB_miss (a := x) (b := y) (fun j h1 h2 => HA.out j (by omega)))
        go_wp2
        go_ret
        exact ⟨ret_bool' HM.out.symm, hB⟩
    · have HM := Lib.hid (earB_miss (a := x) (b := y) (fun j h1 h2 => HA.out j (by omega)))
      go_wp2
      go_ret
      exact ⟨ret_bool' HM.out.symm, hB⟩
end Go.Proofs.Ytglkjiimmlobbaa
